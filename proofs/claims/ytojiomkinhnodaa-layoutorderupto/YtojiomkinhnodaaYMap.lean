/- The sections by name, in memory. -/
import Derived.Test.YtojiomkinhnodaaYSmall
namespace Go.Proofs.Ytojiomkinhnodaa
open Go.ChangeShapes Go.WideShapes Go.ChangeAt Go.RowKit Go.Maps
set_option linter.unusedVariables false
set_option linter.unusedSimpArgs false

abbrev mval (p : Ou × Value) : Value := .agg #[.string p.1.nm, .int .i64 p.1.ty, .int .i64 p.1.fl, .int .i64 p.1.al, .int .i64 p.1.ad, .int .i64 p.1.sz, p.2]
def mz : Ou × Value := (Ou.zero, .slice none 0 0)
theorem zeroM (w : World) : (zeroValue 89).run Try.prog w = .ok (mval mz) w := by kernel_rfl
def encP (x : So) : List Value := [.int .i64 x.o, .int .i64 x.k]
theorem encP_len (r : So) : (encP r).length = 2 := rfl
theorem encP_one (r : So) : ∀ v ∈ encP r, v.oneCell' = true := List.all_eq_true.1 rfl
theorem infoP : (Try.prog.info? 93).map (fun i => (i.zero, i.size, i.bytes)) = some (some (.agg #[.int .i64 0, .int .i64 0]), 2, 16) := by kernel_rfl
section
variable {α : Type} {val : α → Value} {w w' : World} {b L : Nat} {m : ByteArray → Option α}
/-- v, ok := m[s]. -/
theorem wpList_lookOk {ops : Array Oper} {rest : List Oper} {o : Oper} {a : Act} {Q : Exit → Act → World → Prop} (hg : o.guard = none) (x y : Operand) (t : TypeId) (hop : o.op = Op.lookup t x y true)
    (e : TypeId) (ht : Try.prog.underlying t = some (.map 9 e)) {z : α} (hz : (zeroValue e).run Try.prog w = .ok (val z) w) (hm : a.eval x = .map (some b)) (hM : Mp val w b L m) {s : ByteArray} (hx : a.eval y = .string s) (hs : s.size ≤ maxLen)
    (hK : wpList Try.prog ops Q rest (a.put o.dst (.tuple #[val ((m s).getD z), .bool (m s).isSome])) w) : wpList Try.prog ops Q (o :: rest) a w := by
  obtain ⟨n, D, _, hown, hI⟩ := hM.own
  refine wpList_lookup_own_ok w hg x y t hop 9 e law9 ht RV hz (.held (val z)) [] rfl b n D hm hown (.string s) (kl s) hx (key9 hs) (fun v ps hv => ?_)
  have e : v = val ((m s).getD z) := held_inj hv (hI.get s z)
  subst e
  rw [hI.has' s]
  exact hK
theorem Mp.ismap (h : Mp val w b L m) : ∃ es clock, w.heap[b]? = some (.map es clock) := by
  obtain ⟨n, D, _, ⟨es, clock, hb, _⟩, _⟩ := h.own
  exact ⟨es, clock, hb⟩
end
theorem own_cells2 {w : World} {base e s n : Nat} {v : Value} {xs : List Value} (h : w.ownsRow base e s v n xs) : ∀ q, v.ownBlock = some q → base ≤ q ∧ q < w.heap.size ∧ ∃ cur, w.heap[q]? = some (.cells cur e (0, 0)) := by
  intro k hk
  rcases h.2 with ⟨rfl, _⟩ | ⟨g, cap, cur, rfl, h1, h2, _⟩
  · simp [Value.ownBlock] at hk
  · simp [Value.ownBlock] at hk
    subst hk
    exact ⟨h1, (Array.getElem?_eq_some_iff.1 h2).1, cur, h2⟩
theorem own_ne_map {α : Type} {val : α → Value} {w : World} {b L : Nat} {m : ByteArray → Option α} {base e s n : Nat} {v : Value} {xs : List Value} (h : w.ownsRow base e s v n xs) (hM : Mp val w b L m) : v.ownBlock ≠ some b := fun hq => by
  obtain ⟨_, _, cur, hc⟩ := own_cells2 h b hq
  obtain ⟨es, clock, hb⟩ := hM.ismap
  rw [hb] at hc
  cases hc
theorem own_ne_bk {w : World} {k t : Nat} {cs : Array Value} {base e s n : Nat} {v : Value} {xs : List Value} (h : w.ownsRow base e s v n xs) (hB : Bk w k t cs) (ht : t ≠ e) : v.ownBlock ≠ some k := fun hq => by
  obtain ⟨_, _, cur, hc⟩ := own_cells2 h k hq
  rw [hB.hp] at hc
  injection hc with hc
  injection hc with _ e2 _
  exact ht e2
theorem own_bel {w w' : World} {base e s n : Nat} {v : Value} {xs : List Value} (h : w.ownsRow base e s v n xs) (hb : Below w.heap.size w w') : w'.ownsRow base e s v n xs :=
  World.ownsRow.kept (row := none) h ⟨hb.os, hb.tape, hb.output, hb.size, fun j hj _ => hb.block j hj⟩ (by cases hv : v.ownBlock <;> simp)
theorem own_far {w w' : World} {base e s n : Nat} {v : Value} {xs : List Value} {row : Option Nat} (h : w.ownsRow base e s v n xs) (hg : w.grownBy w' row) (hn : ∀ q, v.ownBlock = some q → row ≠ some q) : w'.ownsRow base e s v n xs :=
  World.ownsRow.kept h hg (by
    cases hv : v.ownBlock with
    | none => exact .inl rfl
    | some q => exact .inr (fun e => hn q hv e.symm))

theorem oneAll {l : List Value} (h : l.all (fun u => u.oneCell') = true) : ∀ u ∈ l, u.oneCell' = true := List.all_eq_true.1 h
theorem bal {a w : World} (h : Below a.heap.size a w) (o : Obj) : Below a.heap.size a (w.alloc o) := h.alloc h.size o
theorem btr {a w w' : World} (h : Below a.heap.size a w) (h' : Below w.heap.size w w') : Below a.heap.size a w' := h.trans (h'.mono h.size)
theorem Bk.setC {w : World} {b t : Nat} {cs : Array Value} (h : Bk w b t cs) (j : Nat) (v : Value) : Bk (w.setCell ⟨b, j, none⟩ v) b t (cs.setIfInBounds j v) := by
  rw [setCell_eq_setRow w b j cs t (0, 0) v h.hp]
  exact h.setR _
theorem Bk.setCo {w : World} {b t : Nat} {cs : Array Value} (h : Bk w b t cs) (p : Addr) (v : Value) (hp : b ≠ p.block) : Bk (w.setCell p v) b t cs := h.of (Below.heap_setCell _ _ _ _ hp)
theorem bel_setC {B : Nat} {w v : World} (h : Below B w v) (p : Addr) (hp : B ≤ p.block) (x : Value) : Below B w (v.setCell p x) :=
  ⟨h.os, h.tape, h.output, by have := h.size; simpa [World.setCell] using this, fun k hk => by rw [Below.heap_setCell _ _ _ _ (by omega)]; exact h.block k hk⟩
theorem bel_setR {B : Nat} {w v : World} (h : Below B w v) (b : Nat) (hb : B ≤ b) (V : Array Value) : Below B w (v.setRow b V) :=
  h.trans ⟨rfl, rfl, rfl, by simp, fun j hj => setRow_other _ b j _ (by omega)⟩
theorem own_setC {w : World} {base e s n : Nat} {v : Value} {xs : List Value} (h : w.ownsRow base e s v n xs) {g : Nat} (hn : v.ownBlock ≠ some g) (j : Nat) (V : Value) : (w.setCell ⟨g, j, none⟩ V).ownsRow base e s v n xs :=
  own_far (row := some g) h ⟨rfl, rfl, rfl, by simp [World.setCell], fun k _ hk => Below.heap_setCell _ _ _ _ (fun e => hk (by rw [e]))⟩ (fun q hq e => hn (hq.trans e.symm))
theorem Mp.setC {α : Type} {val : α → Value} {w : World} {b L : Nat} {m : ByteArray → Option α} (h : Mp val w b L m) {g : Nat} (hn : g ≠ b) (j : Nat) (V : Value) : Mp val (w.setCell ⟨g, j, none⟩ V) b L m :=
  h.kept (row := some g) ⟨rfl, rfl, rfl, by simp [World.setCell], fun k _ hk => Below.heap_setCell _ _ _ _ (fun e => hk (by rw [e]))⟩ (fun e => hn (by injection e with e; exact e.symm))
theorem Turn.setC {S : Nat → Prop} {w w' : World} (h : Turn S w w') {g : Nat} (hg : S g) (j : Nat) (V : Value) : Turn S w (w'.setCell ⟨g, j, none⟩ V) := h.setCell _ hg _
theorem own_sl {w : World} {base e s n : Nat} {v : Value} {xs : List Value} (h : w.ownsRow base e s v n xs) : ∃ a k c, v = .slice a k c := by
  rcases h.2 with ⟨rfl, _⟩ | ⟨g, cap, cur, rfl, _⟩
  · exact ⟨_, _, _, rfl⟩
  · exact ⟨_, _, _, rfl⟩
theorem own_vone {w : World} {base e s n : Nat} {v : Value} {xs : List Value} (h : w.ownsRow base e s v n xs) : v.cells.toList = [v] ∧ v.oneCell' = true := by
  rcases h.2 with ⟨rfl, _⟩ | ⟨g, cap, cur, rfl, _⟩
  · exact ⟨rfl, rfl⟩
  · exact ⟨rfl, rfl⟩
theorem max_if (a b : Int) : max a b = if a < b then b else a := by
  rw [Int.max_def]
  by_cases h : a ≤ b
  · rw [if_pos h]; split <;> omega
  · rw [if_neg h, if_neg (by omega)]
theorem field1 (a0 a1 a2 a3 a4 a5 v : Value) (w : World) : (Instr.field 89 (.agg #[a0, a1, a2, a3, a4, a5, v]) 1).run Try.prog w = .ok v w := by kernel_rfl
theorem field0 (a0 a1 a2 a3 a4 a5 v : Value) (w : World) : (Instr.field 89 (.agg #[a0, a1, a2, a3, a4, a5, v]) 0).run Try.prog w = .ok (.agg #[a0, a1, a2, a3, a4, a5]) w := by kernel_rfl
theorem sizeMg : (Try.prog.info? 89).map (·.size) = some 7 := by kernel_rfl
/-- The map of block b has what the sections U make by name, each with its parts in a row of its own. -/
structure MG (w : World) (B b : Nat) (U : List So) (F : ByteArray → Option (Ou × Value)) : Prop where
  mp : Mp mval w b U.length F
  lo : B ≤ b
  no : ∀ n, F n = none ↔ ps U n = []
  at' : ∀ n u v, F n = some (u, v) → u = mgo U n ∧ OwnR 93 2 encP w B v (ps U n)
  apart : ∀ n n' p p', F n = some p → F n' = some p' → n ≠ n' → ∀ q, p.2.ownBlock = some q → p'.2.ownBlock ≠ some q
section
variable {w w' : World} {B b : Nat} {U : List So} {F : ByteArray → Option (Ou × Value)}
theorem MG.start (w : World) {B : Nat} (hB : B ≤ w.heap.size) : MG (w.alloc (.map #[] 0)) B w.heap.size [] (fun _ => none) :=
  ⟨Mp.new _, hB, fun n => ⟨fun _ => rfl, fun _ => rfl⟩, fun n u v h => (by cases h), fun n n' p p' h => (by cases h)⟩
theorem MG.bel (h : MG w B b U F) (g : Below w.heap.size w w') : MG w' B b U F :=
  ⟨h.mp.below g h.mp.lt, h.lo, h.no, fun n u v e => ⟨(h.at' n u v e).1, own_bel (h.at' n u v e).2 g⟩, h.apart⟩
theorem MG.alloc (h : MG w B b U F) (o : Obj) : MG (w.alloc o) B b U F := h.bel ((Below.refl _ _).alloc (Nat.le_refl _) o)
theorem MG.far (h : MG w B b U F) {row : Option Nat} (hg : w.grownBy w' row) (h1 : row ≠ some b) (h2 : ∀ n p, F n = some p → ∀ q, p.2.ownBlock = some q → row ≠ some q) : MG w' B b U F :=
  ⟨h.mp.kept hg (Ne.symm h1), h.lo, h.no, fun n u v e => ⟨(h.at' n u v e).1, own_far (h.at' n u v e).2 hg (h2 n _ e)⟩, h.apart⟩
theorem MG.setR (h : MG w B b U F) {g : Nat} (h1 : g ≠ b) (h2 : ∀ n p, F n = some p → ∀ q, p.2.ownBlock = some q → g ≠ q) (V : Array Value) : MG (w.setRow g V) B b U F :=
  h.far (row := some g) ⟨rfl, rfl, rfl, by simp, fun k _ hk => setRow_other w g k _ (fun e => hk (by rw [e]))⟩ (fun e => h1 (by injection e)) (fun n p hp q hq e => h2 n p hp q hq (by injection e))
theorem MG.setC (h : MG w B b U F) {g : Nat} (h1 : g ≠ b) (h2 : ∀ n p, F n = some p → ∀ q, p.2.ownBlock = some q → g ≠ q) (j : Nat) (V : Value) : MG (w.setCell ⟨g, j, none⟩ V) B b U F :=
  h.far (row := some g) ⟨rfl, rfl, rfl, by simp [World.setCell], fun k _ hk => Below.heap_setCell _ _ _ _ (fun e => hk (by rw [e]))⟩ (fun e => h1 (by injection e)) (fun n p hp q hq e => h2 n p hp q hq (by injection e))
theorem MG.getE (h : MG w B b U F) (n : ByteArray) : (F n = none ∧ ps U n = []) ∨ ∃ v, F n = some (mgo U n, v) ∧ ps U n ≠ [] ∧ OwnR 93 2 encP w B v (ps U n) := by
  cases e : F n with
  | none => exact .inl ⟨rfl, (h.no n).1 e⟩
  | some p =>
    obtain ⟨u, v⟩ := p
    obtain ⟨h1, h2⟩ := h.at' n u v e
    subst h1
    exact .inr ⟨v, rfl, fun h3 => (by rw [(h.no n).2 h3] at e; cases e), h2⟩
theorem MG.row {n : ByteArray} (h : MG w B b U F) : ∃ v, ((F n).getD mz).2 = v ∧ OwnR 93 2 encP w B v (ps U n) := by
  rcases h.getE n with ⟨h1, h2⟩ | ⟨v, h1, _, h3⟩
  · exact ⟨.slice none 0 0, by rw [h1]; rfl, by rw [h2]; exact OwnR.nil _ _⟩
  · exact ⟨v, by rw [h1]; rfl, h3⟩
/-- One section more. -/
theorem MG.put {w2 w3 : World} (h : MG w B b U F) (x : So) {v0 v1 : Value} {M : Nat} (hM1 : M ≠ b) (hM2 : ∀ n p, F n = some p → ∀ q, p.2.ownBlock = some q → M ≠ q) (hv : ((F x.s.nm).getD mz).2 = v0) (hst : Turn (fun k => v0.ownBlock = some k ∨ k = M) w w2) (hat : ∀ k, v1.ownBlock = some k → v0.ownBlock = some k ∨ w.heap.size ≤ k) (ho : OwnR 93 2 encP w2 B v1 (ps U x.s.nm ++ [x])) (hm : Mp mval w3 b (U.length + 1) (putN F x.s.nm (mgo (U ++ [x]) x.s.nm, v1))) (hg : w2.grownBy w3 (some b)) :
    MG w3 B b (U ++ [x]) (putN F x.s.nm (mgo (U ++ [x]) x.s.nm, v1)) := by
  have old : ∀ n u v, n ≠ x.s.nm → F n = some (u, v) → (∀ q, v0.ownBlock = some q → v.ownBlock ≠ some q) := fun n u v hn e q hq hq2 => by
    cases e2 : F x.s.nm with
    | none => rw [e2] at hv; subst hv; cases hq
    | some p =>
      rw [e2] at hv
      subst hv
      exact h.apart x.s.nm n _ _ e2 e (Ne.symm hn) q hq hq2
  have hmb : Mp mval w2 b U.length F := by
    refine h.mp.turn hst fun e => ?_
    rcases e with e | e
    · cases e2 : F x.s.nm with
      | none => rw [e2] at hv; subst hv; cases e
      | some p =>
        rw [e2] at hv
        subst hv
        exact own_ne_map (h.at' x.s.nm _ _ e2).2 h.mp e
    · exact hM1 e.symm
  refine ⟨by rw [List.length_append]; exact hm, h.lo, fun n => ?_, fun n u v e => ?_, fun n n' p p' e e' hn q hq => ?_⟩
  · unfold putN
    by_cases e : n = x.s.nm
    · subst e
      rw [if_pos rfl, ps_snoc_same]
      simp
    · rw [if_neg e, ps_snoc_other U x e]
      exact h.no n
  · unfold putN at e
    by_cases e1 : n = x.s.nm
    · subst e1
      rw [if_pos rfl] at e
      cases e
      rw [ps_snoc_same]
      exact ⟨rfl, own_far ho hg fun q hq e => own_ne_map ho hmb (hq.trans e.symm)⟩
    · rw [if_neg e1] at e
      obtain ⟨h1, h2⟩ := h.at' n u v e
      rw [ps_snoc_other U x e1]
      have h3 : OwnR 93 2 encP w2 B v (ps U n) := hst.row h2 fun k hk hk2 => hk2.elim (fun q => old n u v e1 e k q hk) (fun q => hM2 n _ e k hk q.symm)
      refine ⟨by rw [h1]; unfold mgo; rw [ps_snoc_other U x e1], own_far h3 hg fun q hq e => own_ne_map h3 hmb (hq.trans e.symm)⟩
  · have fresh : ∀ n u v, n ≠ x.s.nm → F n = some (u, v) → ∀ q, v1.ownBlock = some q → v.ownBlock ≠ some q := fun n u v hn e q hq hq2 => by
      rcases hat q hq with h1 | h1
      · exact old n u v hn e q h1 hq2
      · have := ((h.at' n u v e).2.lt q hq2).2
        omega
    unfold putN at e e'
    by_cases e1 : n = x.s.nm
    · rw [if_pos e1] at e
      rw [if_neg (fun h2 => hn (e1.trans h2.symm))] at e'
      cases e
      exact fresh n' p'.1 p'.2 (fun h2 => hn (e1.trans h2.symm)) e' q hq
    · rw [if_neg e1] at e
      by_cases e2 : n' = x.s.nm
      · rw [if_pos e2] at e'
        cases e'
        exact fun h2 => fresh n p.1 p.2 e1 e q h2 hq
      · rw [if_neg e2] at e'
        exact h.apart n n' p p' e e' hn q hq
end
end Go.Proofs.Ytojiomkinhnodaa
