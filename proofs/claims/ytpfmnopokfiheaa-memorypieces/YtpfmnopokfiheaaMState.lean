/- What lies in memory of a Memory: its block, its map, its pages; what turns. -/
import Derived.Test.YtpfmnopokfiheaaMBytes
import Derived.Maps.OwnSet
import Derived.Maps.OwnOps
import Derived.Maps.RangeWalk
namespace Go.Proofs.Ytpfmnopokfiheaa
open Go.ChangeShapes Go.WideShapes Go.ChangeAt Go.RowKit Go.Maps
set_option linter.unusedVariables false
set_option linter.unusedSimpArgs false
set_option maxRecDepth 100000

/-- An element reads as itself. -/
def RV (v : Value) : Option (DataW Value × List MemPlace) := some (.held v, [])
/-- A key's reading. -/
def kl (k : Nat) : Lit := .int .u64 (k : Int)
theorem kl_inj {s t : Nat} (h : kl s = kl t) : s = t := by
  unfold kl at h
  injection h with _ h
  exact_mod_cast h
theorem kl_key (s : Nat) : WideAt.IsKeyLit (kl s) := trivial
theorem law30 : Keyed Try.prog 30 := int_keyed Try.underlying30
theorem wf_u64 {k : Nat} (h : k < 18446744073709551616) : (Lit.int .u64 (k : Int)).wf = true := by
  simp [Lit.wf, IntKind.min, IntKind.max, IntKind.signed, IntKind.bits]; omega
theorem key30 {k : Nat} (h : k < 18446744073709551616) : keyOf Try.prog 30 (.int .u64 (k : Int)) = some (kl k) := keyOf_int_mk Try.underlying30 (wf_u64 h)
theorem held_inj {v u : Value} {d : DataW Value} {ps : List MemPlace} (h : RV v = some (d, ps)) (hu : d = .held u) : v = u := by
  subst hu
  have h1 := congrArg Prod.fst (Option.some.inj h)
  exact DataW.held.inj h1

/-- A page's cells. -/
def pgC (m : Int) (B : List Int) : Array Value := (Value.int .i64 m :: B.map (Value.int .u8)).toArray
theorem z75 : Try.zeroCells75.toList = Value.int .i64 0 :: List.replicate 4096 (.int .u8 0) := by kernel_rfl
def zeroB : List Int := List.replicate 4096 0
theorem z75' : Try.zeroCells75 = pgC 0 zeroB := by
  apply Array.toList_inj.1
  rw [z75]
  simp [pgC, zeroB]

/-- A pointer to a page. -/
def pgP (b : Nat) : Value := .pointer (some ⟨b, 0, none⟩)

/-- What a look-up answers. -/
def pgV (o : Option Pz) (b : Nat) : Value := match o with | none => .pointer none | some _ => pgP b
/-- The map D holds just the pages of L, each by its number. -/
structure Inv (D : DataW Value) (pl : Nat → Nat) (L : List Pz) : Prop where
  is : Tidy D
  size : Maps.size D = L.length
  has : ∀ k, has D (kl k) = (fnd L k).isSome
  at' : ∀ k, D.atKey (kl k) (.held (.pointer none)) = .held (pgV (fnd L k) (pl k))
  all : ∀ l, Maps.has D l = true → ∃ k, l = kl k

/-- A Memory lies in memory. -/
structure MA (w : World) (mb gb : Nat) (pl : Nat → Nat) (L : List Pz) : Prop where
  cells : w.heap[mb]? = some (.cells #[.map (some gb)] 62)
  own : ∃ D, w.ownsMap Try.prog 30 RV gb L.length D ∧ Inv D pl L
  pages : ∀ p ∈ L, w.heap[pl p.k]? = some (.cells (pgC p.may p.B) 75)
  inj : ∀ p ∈ L, ∀ q ∈ L, pl p.k = pl q.k → p.k = q.k
  mz : Mz L

/-- Its blocks. -/
def MS (mb gb : Nat) (pl : Nat → Nat) (L : List Pz) (b : Nat) : Prop := b = mb ∨ b = gb ∨ ∃ p ∈ L, b = pl p.k

theorem MA.mcell {w : World} {mb gb : Nat} {pl : Nat → Nat} {L : List Pz} (h : MA w mb gb pl L) : w.cell? ⟨mb, 0, none⟩ = some (.map (some gb)) := by
  simp [World.cell?, h.cells]
theorem MA.pcell {w : World} {mb gb : Nat} {pl : Nat → Nat} {L : List Pz} (h : MA w mb gb pl L) {p : Pz} (hp : p ∈ L) : w.cell? ⟨pl p.k, 0, none⟩ = some (.int .i64 p.may) := by
  simp [World.cell?, h.pages p hp, pgC]
theorem MA.bcell {w : World} {mb gb : Nat} {pl : Nat → Nat} {L : List Pz} (h : MA w mb gb pl L) {p : Pz} (hp : p ∈ L) {i : Nat} (hi : i < 4096) : w.cell? ⟨pl p.k, 1 + i, none⟩ = some (.int .u8 (p.B.getD i 0)) := by
  have hl := (h.mz.ok p hp).len
  simp [World.cell?, h.pages p hp, pgC, Nat.add_comm 1 i, hl, hi]
theorem MA.glt {w : World} {mb gb : Nat} {pl : Nat → Nat} {L : List Pz} (h : MA w mb gb pl L) : gb < w.heap.size := by
  obtain ⟨D, hD, _⟩ := h.own
  exact hD.lt
theorem MA.mlt {w : World} {mb gb : Nat} {pl : Nat → Nat} {L : List Pz} (h : MA w mb gb pl L) : mb < w.heap.size := (Array.getElem?_eq_some_iff.1 h.cells).1
theorem MA.plt {w : World} {mb gb : Nat} {pl : Nat → Nat} {L : List Pz} (h : MA w mb gb pl L) {p : Pz} (hp : p ∈ L) : pl p.k < w.heap.size := (Array.getElem?_eq_some_iff.1 (h.pages p hp)).1
theorem MA.slt {w : World} {mb gb : Nat} {pl : Nat → Nat} {L : List Pz} (h : MA w mb gb pl L) {b : Nat} (hb : MS mb gb pl L b) : b < w.heap.size := by
  rcases hb with rfl | rfl | ⟨p, hp, rfl⟩
  · exact h.mlt
  · exact h.glt
  · exact h.plt hp
theorem MA.gobj {w : World} {mb gb : Nat} {pl : Nat → Nat} {L : List Pz} (h : MA w mb gb pl L) : ∃ es c, w.heap[gb]? = some (.map es c) := by
  obtain ⟨D, ⟨es, c, he, _⟩, _⟩ := h.own
  exact ⟨es, c, he⟩
theorem MA.mg {w : World} {mb gb : Nat} {pl : Nat → Nat} {L : List Pz} (h : MA w mb gb pl L) : mb ≠ gb := by
  intro e
  obtain ⟨es, c, he⟩ := h.gobj
  rw [← e, h.cells] at he
  cases he
theorem MA.pg {w : World} {mb gb : Nat} {pl : Nat → Nat} {L : List Pz} (h : MA w mb gb pl L) {p : Pz} (hp : p ∈ L) : pl p.k ≠ gb := by
  intro e
  obtain ⟨es, c, he⟩ := h.gobj
  rw [← e, h.pages p hp] at he
  cases he
theorem MA.pm {w : World} {mb gb : Nat} {pl : Nat → Nat} {L : List Pz} (h : MA w mb gb pl L) {p : Pz} (hp : p ∈ L) : pl p.k ≠ mb := by
  intro e
  have := h.pages p hp
  rw [e, h.cells] at this
  injection this with this
  injection this with h1 h2
  cases h2

/-- What has turned: the blocks of S, and none that was there beside them. -/
structure Turn (S : Nat → Prop) (w w' : World) : Prop where
  os : w'.os = w.os
  tape : w'.tape = w.tape
  output : w'.output = w.output
  size : w.heap.size ≤ w'.heap.size
  block : ∀ k, k < w.heap.size → ¬ S k → w'.heap[k]? = w.heap[k]?

theorem Turn.refl (S : Nat → Prop) (w : World) : Turn S w w := ⟨rfl, rfl, rfl, Nat.le_refl _, fun _ _ _ => rfl⟩
theorem Turn.trans {S : Nat → Prop} {a b c : World} (h : Turn S a b) (k : Turn S b c) : Turn S a c :=
  ⟨k.os.trans h.os, k.tape.trans h.tape, k.output.trans h.output, Nat.le_trans h.size k.size, fun i hi hs => (k.block i (Nat.lt_of_lt_of_le hi h.size) hs).trans (h.block i hi hs)⟩
/-- What turns anew may be of the call's own, too. -/
theorem Turn.trans' {S S' : Nat → Prop} {a b c : World} (h : Turn S a b) (k : Turn S' b c) (hs : ∀ i, i < a.heap.size → S' i → S i) : Turn S a c :=
  ⟨k.os.trans h.os, k.tape.trans h.tape, k.output.trans h.output, Nat.le_trans h.size k.size, fun i hi hn => (k.block i (Nat.lt_of_lt_of_le hi h.size) (fun e => hn (hs i hi e))).trans (h.block i hi hn)⟩
theorem Turn.mono {S S' : Nat → Prop} {w w' : World} (h : Turn S w w') (hs : ∀ k, k < w.heap.size → S k → S' k) : Turn S' w w' :=
  ⟨h.os, h.tape, h.output, h.size, fun k hk hn => h.block k hk (fun e => hn (hs k hk e))⟩
theorem Turn.grown {S : Nat → Prop} {a w w' : World} {row : Option Nat} (h : Turn S a w) (hg : w.grownBy w' row) (hr : ∀ k, k < a.heap.size → row = some k → S k) : Turn S a w' :=
  ⟨hg.os.trans h.os, hg.tape.trans h.tape, hg.output.trans h.output, Nat.le_trans h.size hg.size, fun k hk hn => (hg.block k (Nat.lt_of_lt_of_le hk h.size) (fun e => hn (hr k hk e.symm))).trans (h.block k hk hn)⟩
theorem Turn.alloc {S : Nat → Prop} {a w : World} (h : Turn S a w) (o : Obj) : Turn S a (w.alloc o) :=
  h.grown (World.grownBy_alloc w o none) (fun _ _ e => by cases e)
theorem Turn.setCell {S : Nat → Prop} {a w : World} (h : Turn S a w) (p : Addr) (hp : S p.block ∨ a.heap.size ≤ p.block) (u : Value) : Turn S a (w.setCell p u) :=
  ⟨h.os, h.tape, h.output, by have := h.size; simpa [World.setCell] using this, fun k hk hn => by
    have hne : k ≠ p.block := fun e => hp.elim (fun hp => hn (by rw [e]; exact hp)) (fun hp => by omega)
    rw [Below.heap_setCell _ _ _ _ hne]; exact h.block k hk hn⟩
theorem Turn.below {S : Nat → Prop} {w w' : World} (h : Turn S w w') {B : Nat} (hB : B ≤ w.heap.size) (hs : ∀ k, S k → B ≤ k) : Below B w w' :=
  ⟨h.os, h.tape, h.output, h.size, fun k hk => h.block k (by omega) (fun e => by have := hs k e; omega)⟩
theorem Turn.of_below {w w' : World} (h : Below w.heap.size w w') (S : Nat → Prop) : Turn S w w' :=
  ⟨h.os, h.tape, h.output, h.size, fun k hk _ => h.block k hk⟩
theorem Turn.row {S : Nat → Prop} {w w' : World} (h : Turn S w w') {base e s n : Nat} {v : Value} {xs : List Value} (hr : w.ownsRow base e s v n xs) (hs : ∀ k, v.ownBlock = some k → ¬ S k) : w'.ownsRow base e s v n xs := by
  refine ⟨hr.1, ?_⟩
  rcases hr.2 with hn | ⟨g, cap, cur, rfl, hb, hgg, rest⟩
  · exact .inl hn
  · refine .inr ⟨g, cap, cur, rfl, hb, ?_, rest⟩
    rw [h.block g (Array.getElem?_eq_some_iff.1 hgg).1 (hs g rfl)]
    exact hgg

/-- A Memory stays what it is while other blocks turn. -/
theorem MA.turn {w w' : World} {mb gb : Nat} {pl : Nat → Nat} {L : List Pz} (h : MA w mb gb pl L) {S : Nat → Prop} (ht : Turn S w w') (hs : ∀ b, MS mb gb pl L b → ¬ S b) : MA w' mb gb pl L := by
  refine ⟨?_, ?_, fun p hp => ?_, h.inj, h.mz⟩
  · rw [ht.block mb h.mlt (hs mb (.inl rfl))]; exact h.cells
  · obtain ⟨D, ⟨es, c, he, r⟩, hI⟩ := h.own
    exact ⟨D, ⟨es, c, by rw [ht.block gb h.glt (hs gb (.inr (.inl rfl)))]; exact he, r⟩, hI⟩
  · rw [ht.block _ (h.plt hp) (hs _ (.inr (.inr ⟨p, hp, rfl⟩)))]; exact h.pages p hp
theorem MA.below {w w' : World} {mb gb : Nat} {pl : Nat → Nat} {L : List Pz} (h : MA w mb gb pl L) (ht : Below w.heap.size w w') : MA w' mb gb pl L :=
  h.turn (Turn.of_below ht (fun _ => False)) (fun _ _ e => e)
theorem MA.alloc {w : World} {mb gb : Nat} {pl : Nat → Nat} {L : List Pz} (h : MA w mb gb pl L) (o : Obj) : MA (w.alloc o) mb gb pl L :=
  h.below ((Below.refl _ _).alloc (Nat.le_refl _) o)

theorem Inv.none {pl : Nat → Nat} : Inv (.map []) pl [] :=
  ⟨tidy_empty, rfl, fun k => by simp [Maps.has, fnd], fun k => by rw [atKey_of_not_has (by simp [Maps.has])]; rfl, fun l h => by simp [Maps.has] at h⟩

/-- No Memory, or one that nobody made. -/
def NM (w : World) (v : Value) : Prop := v = .pointer none ∨ ∃ b, v = .pointer (some ⟨b, 0, none⟩) ∧ w.cell? ⟨b, 0, none⟩ = some (.map none)
theorem NM.below {w w' : World} {v : Value} (h : NM w v) (hb : Below w.heap.size w w') : NM w' v := by
  rcases h with h | ⟨b, rfl, h⟩
  · exact .inl h
  · exact .inr ⟨b, rfl, (hb.cell (p := ⟨b, 0, none⟩) (World.block_lt_of_cell? _ _ h)).trans h⟩
end Go.Proofs.Ytpfmnopokfiheaa
