/- The map of operators. -/
import Derived.Test.YtljmbgflcidokaaGreatDoorXOfN
import Derived.Maps.OwnSet
import Derived.Maps.OwnOps
namespace Go.Proofs.YtljmbgflcidokaaGreatDoor
open Go.ChangeShapes Go.WideShapes Go.ChangeAt Go.RowKit Go.Maps
set_option linter.unusedVariables false
set_option linter.unusedSimpArgs false

/-- An element reads as itself. -/
def RV (v : Value) : Option (DataW Value × List MemPlace) := some (.held v, [])
/-- A key's reading. -/
def kl (s : ByteArray) : Lit := .string s.data.toList
theorem kl_inj {s t : ByteArray} (h : kl s = kl t) : s = t := by
  unfold kl at h
  injection h with h
  exact ByteArray.ext (Array.toList_inj.1 h)
theorem kl_key (s : ByteArray) : WideAt.IsKeyLit (kl s) := trivial
theorem law9 : Keyed Tryz.prog 9 := string_keyed Tryz.underlying9
theorem key9 {s : ByteArray} (h : s.size ≤ 281474976710656) : keyOf Tryz.prog 9 (.string s) = some (kl s) := WideMaps.keyOf_string_mk Tryz.underlying9 (by unfold maxLen; omega)

/-- The map D holds just what E says. -/
structure Inv (D : DataW Value) (E : ByteArray → Value → Prop) : Prop where
  m : IsMap D
  snd : ∀ t z, has D (kl t) = true → ∃ v, E t v ∧ D.atKey (kl t) z = .held v
  cmp : ∀ t v, E t v → has D (kl t) = true
theorem Inv.none {E : ByteArray → Value → Prop} (h : ∀ t v, ¬ E t v) : Inv (.map []) E :=
  ⟨isMap_empty, fun t z ht => absurd ht (by simp [has]), fun t v e => absurd e (h t v)⟩
/-- A key that is new. -/
theorem Inv.put {D : DataW Value} {E E' : ByteArray → Value → Prop} (h : Inv D E) (s : ByteArray) (v : Value) (hE : ∀ t u, E' t u ↔ (E t u ∧ ¬ t = s) ∨ (t = s ∧ u = v)) : Inv (D.put (kl s) (.held v)) E' := by
  refine ⟨h.m.put _ _, fun t z ht => ?_, fun t u e => ?_⟩
  · by_cases e : kl t = kl s
    · rw [e, atKey_put_same h.m (kl_key s)]
      exact ⟨v, (hE t v).2 (.inr ⟨kl_inj e, rfl⟩), rfl⟩
    · rw [has_put_other e] at ht
      rw [atKey_put_other e]
      obtain ⟨u, hu, hv⟩ := h.snd t z ht
      exact ⟨u, (hE t u).2 (.inl ⟨hu, fun x => e (by rw [x])⟩), hv⟩
  · rcases (hE t u).1 e with e | ⟨rfl, rfl⟩
    · by_cases e' : kl t = kl s
      · rw [e', has_put_same h.m (kl_key s)]
      · rw [has_put_other e']; exact h.cmp t u e.1
    · exact has_put_same h.m (kl_key _) _
theorem held_inj {v u : Value} {d : DataW Value} {ps : List MemPlace} (h : RV v = some (d, ps)) (hu : d = .held u) : v = u := by
  subst hu
  have h1 := congrArg Prod.fst (Option.some.inj h)
  exact DataW.held.inj h1

/-- m[k] = v, where a literal of a map lays it. -/
theorem wpList_insert_own {H : Type} {P : Program} (w : World) {ops : Array Oper} {rest : List Oper} {o : Oper} {a : Act} {Q : Exit → Act → World → Prop}
    (hg : o.guard = none) (m x v : Operand) (t : TypeId) (hop : o.op = Op.insert t m x v)
    (k e : TypeId) (K : Keyed P k) (ht : P.underlying t = some (.map k e)) (R : Value → Option (DataW H × List MemPlace)) (b n : Nat) (D : DataW H)
    (hm : a.eval m = .map (some b)) (hown : w.ownsMap P k R b n D) (hn : n < maxLen) (key val : Value) (kl : Lit) (hx : a.eval x = key) (hv : a.eval v = val) (hkey : keyOf P k key = some kl)
    (d : DataW H) (ps : List MemPlace) (hval : R val = some (d, ps))
    (hK : ∀ w', w'.ownsMap P k R b (n + 1) (D.put kl d) → w.grownBy w' (some b) → w'.heap.size = w.heap.size → wpList P ops Q rest (a.put o.dst undef) w') :
    wpList P ops Q (o :: rest) a w := by
  refine wpList_plain hg fun K' hK' => ?_
  obtain ⟨w', hrun, r1, r2⟩ := hown.update K ht hn hkey hval
  have hsz : w'.heap.size = w.heap.size := by
    obtain ⟨es, clock, hb, F, hs, rfl⟩ := hown
    obtain ⟨es', clock', hrun', _⟩ := Maps.fit_store (R' := R) K ht hb F (Nat.lt_of_le_of_lt hs hn) (fun _ _ _ _ hz => hz) hkey hval
    rw [hrun] at hrun'
    injection hrun' with _ e
    rw [e]
    simp [ChangeMaps.setBlock]
  unfold Oper.wp
  simp [execOp, hop, hm, hx, hv, hrun, Result.andThen]
  exact hK' _ _ (hK w' r1 r2 hsz)

/-- The signs, their levels, the functions of numbers. -/
def sgn (i : Nat) : List UInt8 := (opsL.getD i ([], 0, addV)).1
def fnJ (i : Nat) : Nat := [42, 43, 44, 45, 46, 47, 48].getD i 0
def fnG (i : Nat) : Int → Int → Option Int := [mulN, divN, shlN, shrN, andN, orN, xorN].getD i mulN
/-- An operator's function value: its map lies in block mb. -/
def opF (mb i : Nat) : Value := if i < 7 then .func (.func 68) #[] #[.pointer (some ⟨mb + 1 + i, 0, none⟩)] else if i = 7 then .func (.func 15) #[] #[] else .func (.func 17) #[] #[]
def opV (mb i : Nat) : Value := .agg #[.int .i64 ((opsL.getD i ([], 0, addV)).2.1 : Int), opF mb i]
/-- What was laid of the first j operators. -/
def opE (mb j : Nat) (t : ByteArray) (v : Value) : Prop := ∃ i, i < j ∧ t = St (sgn i) ∧ v = opV mb i
theorem sgn_size (i : Nat) (h : i < 9) : (St (sgn i)).size ≤ 2 := by
  have : ∀ k : Fin 9, (St (sgn k.val)).size ≤ 2 := by decide
  exact this ⟨i, h⟩
theorem sgn_inj {i j : Nat} (hi : i < 9) (hj : j < 9) (h : St (sgn i) = St (sgn j)) : i = j := by
  have hl := St_inj h
  have : ∀ a b : Fin 9, sgn a.val = sgn b.val → a = b := by decide
  exact congrArg Fin.val (this ⟨i, hi⟩ ⟨j, hj⟩ hl)
theorem opE_succ (mb j : Nat) (hj : j < 9) (t : ByteArray) (v : Value) : opE mb (j + 1) t v ↔ (opE mb j t v ∧ ¬ t = St (sgn j)) ∨ (t = St (sgn j) ∧ v = opV mb j) := by
  constructor
  · rintro ⟨i, hi, h1, h2⟩
    by_cases e : i = j
    · subst e; exact .inr ⟨h1, h2⟩
    · exact .inl ⟨⟨i, by omega, h1, h2⟩, fun x => e (sgn_inj (by omega) hj (h1.symm.trans x))⟩
  · rintro (⟨⟨i, hi, h1, h2⟩, _⟩ | ⟨h1, h2⟩)
    · exact ⟨i, by omega, h1, h2⟩
    · exact ⟨j, by omega, h1, h2⟩

/-- The map as far as it is laid: j operators, n of their functions' variables. -/
structure OM (w0 w : World) (j n : Nat) : Prop where
  own : ∃ D, w.ownsMap Tryz.prog 9 RV w0.heap.size j D ∧ Inv D (opE w0.heap.size j)
  sz : w.heap.size = w0.heap.size + 1 + n
  cl : ∀ i, i < n → w.cell? ⟨w0.heap.size + 1 + i, 0, none⟩ = some (.func (.func (fnJ i)) #[] #[])
  bel : Below w0.heap.size w0 w
theorem OM.start (w0 : World) : OM w0 (w0.alloc (.map #[] 0)) 0 0 :=
  ⟨⟨_, World.ownsMap_made _ _ _ _, Inv.none (fun t v ⟨i, hi, _⟩ => by omega)⟩, by simp, fun i hi => by omega, bel_alloc (Below.refl _ _) _⟩
theorem OM.fn {w0 w : World} {j n : Nat} (h : OM w0 w j n) (o : Obj) (ho : o = .cells #[.func (.func (fnJ n)) #[] #[]] 101) : OM w0 (w.alloc o) j (n + 1) := by
  subst ho
  obtain ⟨⟨D, h1, h2⟩, hs, hc, hb⟩ := h
  refine ⟨⟨D, h1.kept (World.grownBy_alloc _ _ none) (by simp), h2⟩, by simp; omega, fun i hi => ?_, bel_alloc hb _⟩
  by_cases e : i = n
  · subst e
    rw [show w0.heap.size + 1 + i = w.heap.size by omega]
    simp
  · exact up_alloc (hc i (by omega)) _
theorem OM.grown {w0 w w' : World} {j n : Nat} (h : OM w0 w j n) (hj : j < 9) {D' : DataW Value} (hown : w'.ownsMap Tryz.prog 9 RV w0.heap.size (j + 1) D') (hI : Inv D' (opE w0.heap.size (j + 1))) (hg : w.grownBy w' (some w0.heap.size)) (hs : w'.heap.size = w.heap.size) : OM w0 w' (j + 1) n := by
  obtain ⟨_, h2, hc, hb⟩ := h
  refine ⟨⟨D', hown, hI⟩, by omega, fun i hi => ?_, hb.grown hg hb.size (fun k hk => by cases hk; exact Nat.le_refl _)⟩
  have := hc i hi
  rw [← this]
  exact World.cell?_of_block (hg.block _ (by dsimp only; omega) (by simp; omega))

theorem und66 : Tryz.prog.underlying 66 = some (.map 9 82) := Tryz.underlying66
/-- The next operator is laid. -/
theorem ins_step {w0 w : World} {j n : Nat} (hO : OM w0 w j n) (hj : j < 9) {ops : Array Oper} {rest : List Oper} {o : Oper} {a : Act} {Q : Exit → Act → World → Prop}
    (hg : o.guard = none) (m x v : Operand) (hop : o.op = Op.insert 66 m x v) (hm : a.eval m = .map (some w0.heap.size)) (hx : a.eval x = .string (St (sgn j))) (hv : a.eval v = opV w0.heap.size j)
    (hK : ∀ w', OM w0 w' (j + 1) n → wpList Tryz.prog ops Q rest (a.put o.dst undef) w') : wpList Tryz.prog ops Q (o :: rest) a w := by
  obtain ⟨D, h1, h2⟩ := hO.own
  refine wpList_insert_own w hg m x v _ hop 9 82 law9 und66 RV w0.heap.size j D hm h1 (by unfold maxLen; omega) _ _ (kl (St (sgn j))) hx hv (key9 (by have := sgn_size j hj; omega)) _ [] rfl ?_
  intro w' o1 g1 s1
  exact hK w' (hO.grown hj o1 (h2.put _ _ (opE_succ _ j hj)) g1 s1)

theorem ofN_step {w0 w : World} {j n : Nat} (hO : OM w0 w j n) (J : Nat) (hJ : J = fnJ n) : Calls Tryz.prog 41 #[.func (.func J) #[] #[]] w fun e w' => e = .returned (.func (.func 68) #[] #[.pointer (some ⟨w0.heap.size + 1 + n, 0, none⟩)]) ∧ OM w0 w' j (n + 1) := by
  subst hJ
  refine (ofNumbers_make _ w).mono ?_
  rintro e w' ⟨rfl, rfl⟩
  exact ⟨by rw [hO.sz], hO.fn _ rfl⟩
set_option maxHeartbeats 4000000 in
set_option maxRecDepth 10000 in
theorem operators_any (w : World) : Calls Tryz.prog 29 #[] w fun e w' => e = .returned (.map (some w.heap.size)) ∧ OM w w' 9 7 := by
  have hmm : ∀ w : World, (Instr.makeMap 66 none).run Tryz.prog w = .ok (.map (some w.heap.size)) (w.alloc (.map #[] 0)) := by intro w; kernel_rfl
  have hO := OM.start w
  go_enter Tryz.func29, Tryz.ntmps29
  go_wp2_with (first
    | (go_at_call 41; refine (ofN_step hO _ (by rfl)).mono ?_; clear hO; rintro e w' ⟨rfl, hO⟩)
    | (refine ins_step hO (by omega) rfl _ _ _ rfl (by kernel_rfl) (by kernel_rfl) (by kernel_rfl) ?_; clear hO; intro w' hO))
  go_ret
  exact ⟨rfl, hO⟩

/-- The operators lie in memory. -/
structure OpM (w : World) (mb : Nat) : Prop where
  own : ∃ D, w.ownsMap Tryz.prog 9 RV mb 9 D ∧ Inv D (opE mb 9)
  cl : ∀ i, i < 7 → w.cell? ⟨mb + 1 + i, 0, none⟩ = some (.func (.func (fnJ i)) #[] #[])
theorem OM.all {w0 w : World} (h : OM w0 w 9 7) : OpM w w0.heap.size := ⟨h.own, h.cl⟩
theorem OpM.lt {w : World} {mb : Nat} (h : OpM w mb) : mb + 8 ≤ w.heap.size := by
  have := World.block_lt_of_cell? w _ (h.cl 6 (by omega))
  simp at this
  omega
theorem OpM.turn {w w' : World} {mb : Nat} (h : OpM w mb) {S : Nat → Prop} (ht : Turn S w w') (hS : ∀ k, S k → k < mb ∨ mb + 8 ≤ k) : OpM w' mb := by
  have hl := h.lt
  obtain ⟨⟨D, ⟨es, clock, hb, r⟩, hI⟩, hc⟩ := h
  refine ⟨⟨D, ⟨es, clock, (ht.block mb (by omega) (fun e => by have := hS _ e; omega)).trans hb, r⟩, hI⟩, fun i hi => ?_⟩
  rw [← hc i hi]
  exact World.cell?_of_block (ht.block _ (by dsimp only; omega) (fun e => by have := hS _ e; dsimp only at this; omega))
theorem getD_at {α : Type} (l : List α) (i : Nat) (h : i < l.length) (d : α) : l.getD i d = l[i] := by simp [List.getD, h]
theorem opOf_some {s : List UInt8} {q : Nat × (Vx → Vx → Option Vx)} (h : opOf s = some q) : ∃ i, i < 9 ∧ s = sgn i ∧ q = (opsL.getD i ([], 0, addV)).2 := by
  unfold opOf at h
  rw [Option.map_eq_some_iff] at h
  obtain ⟨p, hp, rfl⟩ := h
  have h1 := List.find?_some hp
  have h2 := List.mem_of_find?_eq_some hp
  obtain ⟨i, hi, he⟩ := List.getElem_of_mem h2
  refine ⟨i, hi, ?_, ?_⟩
  · have e : p.1 = s := by simpa using h1
    unfold sgn
    rw [getD_at _ _ hi, he, e]
  · rw [getD_at _ _ hi, he]
theorem opOf_none {s : List UInt8} (h : opOf s = none) (i : Nat) (hi : i < 9) : ¬ s = sgn i := by
  unfold opOf at h
  rw [Option.map_eq_none_iff, List.find?_eq_none] at h
  intro e
  have := h (opsL.getD i ([], 0, addV)) (by rw [getD_at opsL i hi]; exact List.getElem_mem _)
  apply this
  rw [e]
  simp [sgn]
/-- What a look-up of a sign finds. -/
theorem look_none {mb : Nat} {D : DataW Value} (h : Inv D (opE mb 9)) {s : List UInt8} (hs : opOf s = none) : has D (kl (St s)) = false := by
  cases hh : has D (kl (St s)) with
  | false => rfl
  | true =>
    obtain ⟨v, ⟨i, hi, h1, _⟩, _⟩ := h.snd (St s) (.held undef) hh
    exact absurd (St_inj h1) (opOf_none hs i hi)
theorem look_some {mb : Nat} {D : DataW Value} (h : Inv D (opE mb 9)) {s : List UInt8} {i : Nat} (hi : i < 9) (hs : s = sgn i) (z : DataW Value) : has D (kl (St s)) = true ∧ D.atKey (kl (St s)) z = .held (opV mb i) := by
  have hh : has D (kl (St s)) = true := h.cmp (St s) (opV mb i) ⟨i, hi, by rw [hs], rfl⟩
  refine ⟨hh, ?_⟩
  obtain ⟨v, ⟨j, hj, h1, h2⟩, h3⟩ := h.snd (St s) z hh
  rw [hs] at h1
  have := sgn_inj hi hj h1
  subst this
  rw [h3, h2]
theorem fnJ_ok (i : Nat) (hi : i < 7) : FnN (fnJ i) (fnG i) := by
  have : i = 0 ∨ i = 1 ∨ i = 2 ∨ i = 3 ∨ i = 4 ∨ i = 5 ∨ i = 6 := by omega
  rcases this with rfl | rfl | rfl | rfl | rfl | rfl | rfl
  · exact product_any
  · exact quotient_any
  · exact shiftLeft_any
  · exact shiftRight_any
  · exact andN_any
  · exact orN_any
  · exact xorN_any
theorem fnJ_ent (i : Nat) (hi : i < 7) : ∀ (args : Array Value) (w : World), (callFunc (fnJ i) args).run Tryz.prog w = .ok (.enter (fnJ i) args) w := by
  have : i = 0 ∨ i = 1 ∨ i = 2 ∨ i = 3 ∨ i = 4 ∨ i = 5 ∨ i = 6 := by omega
  rcases this with rfl | rfl | rfl | rfl | rfl | rfl | rfl
  · exact enters_of Tryz.func42 (by kernel_rfl) rfl
  · exact enters_of Tryz.func43 (by kernel_rfl) rfl
  · exact enters_of Tryz.func44 (by kernel_rfl) rfl
  · exact enters_of Tryz.func45 (by kernel_rfl) rfl
  · exact enters_of Tryz.func46 (by kernel_rfl) rfl
  · exact enters_of Tryz.func47 (by kernel_rfl) rfl
  · exact enters_of Tryz.func48 (by kernel_rfl) rfl
/-- What the i-th operator does. -/
def opG (i : Nat) : Vx → Vx → Option Vx := (opsL.getD i ([], 0, addV)).2.2
theorem opG_num (i : Nat) (hi : i < 7) : opG i = ofN (fnG i) := by
  have : i = 0 ∨ i = 1 ∨ i = 2 ∨ i = 3 ∨ i = 4 ∨ i = 5 ∨ i = 6 := by omega
  rcases this with rfl | rfl | rfl | rfl | rfl | rfl | rfl <;> rfl
theorem apply_num {w : World} {mb i : Nat} (h : OpM w mb) (hi : i < 7) (a b : Vx) : Calls Tryz.prog 68 #[.agg #[.string a.p, .string a.m, .int .i64 a.n], .agg #[.string b.p, .string b.m, .int .i64 b.n], .pointer (some ⟨mb + 1 + i, 0, none⟩)] w fun e w' => e = .returned (vE (opG i a b)) ∧ Below w.heap.size w w' := by
  rw [opG_num i hi]
  exact ofNumbers_any (fnJ i) (fnG i) (fnJ_ok i hi) (fnJ_ent i hi) a b _ w (h.cl i hi)
theorem opG_ok {i : Nat} (hi : i < 9) {a b v : Vx} (ha : a.Ok) (hb : b.Ok) (h : opG i a b = some v) : v.Ok := by
  by_cases h7 : i < 7
  · rw [opG_num i h7] at h
    unfold ofN at h
    split at h
    · rw [Option.map_eq_some_iff] at h
      obtain ⟨z, _, rfl⟩ := h
      exact Vx.Ok.num z
    · cases h
  · have : i = 7 ∨ i = 8 := by omega
    rcases this with rfl | rfl
    · exact addV_ok ha hb h
    · exact subV_ok ha hb h
theorem twoV_of {s : List UInt8} {i : Nat} {q : Nat × (Vx → Vx → Option Vx)} (h : opOf s = some q) (hq : q = (opsL.getD i ([], 0, addV)).2) (a b : Vx) : twoV s a b = opG i a b := by
  unfold twoV opG
  rw [h, hq]
end Go.Proofs.YtljmbgflcidokaaGreatDoor
