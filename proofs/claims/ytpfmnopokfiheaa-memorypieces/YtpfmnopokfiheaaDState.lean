/- What lies in memory of the document's own Memory: its block, its list of pages, their bytes. -/
import Derived.Test.YtpfmnopokfiheaaMNil
namespace Go.Proofs.Ytpfmnopokfiheaa
open Go.ChangeShapes Go.WideShapes Go.ChangeAt Go.RowKit Go.Maps
set_option linter.unusedVariables false
set_option linter.unusedSimpArgs false

/-- A page's three cells. -/
def Pz.cells (pb : Nat → Nat) (p : Pz) : List Value := [.int .u64 ((p.k * 4096 : Nat) : Int), .int .i64 p.may, .slice (some ⟨pb p.k, 0, none⟩) 4096 4096]
def pzs (pb : Nat → Nat) (L : List Pz) : List Value := L.flatMap (Pz.cells pb)
theorem pzs_len (pb : Nat → Nat) (l : List Pz) : (pzs pb l).length = l.length * 3 := by
  induction l with
  | nil => rfl
  | cons s l ih =>
    show (s.cells pb ++ pzs pb l).length = _
    rw [List.length_append, ih]
    simp [Pz.cells]; omega
theorem pzs_append (pb : Nat → Nat) (l m : List Pz) : pzs pb (l ++ m) = pzs pb l ++ pzs pb m := by simp [pzs]
theorem pzs_one (pb : Nat → Nat) (l : List Pz) : ∀ u ∈ pzs pb l, u.oneCell' = true := by
  intro u hu
  simp only [pzs, List.mem_flatMap] at hu
  obtain ⟨s, _, hs⟩ := hu
  simp only [Pz.cells, List.mem_cons, List.not_mem_nil, or_false] at hs
  rcases hs with rfl | rfl | rfl <;> rfl
theorem pzs_at (pb : Nat → Nat) : ∀ (l : List Pz) (i j : Nat) (hi : i < l.length), j < 3 → (pzs pb l)[i * 3 + j]? = (l[i].cells pb)[j]?
  | [], i, j, hi, _ => by simp at hi
  | s :: l, 0, j, _, hj => by
    show (s.cells pb ++ pzs pb l)[0 * 3 + j]? = _
    rw [List.getElem?_append_left (by simp [Pz.cells]; omega)]
    simp
  | s :: l, i + 1, j, hi, hj => by
    show (s.cells pb ++ pzs pb l)[(i + 1) * 3 + j]? = _
    have hl : (s.cells pb).length = 3 := rfl
    rw [List.getElem?_append_right (by omega), hl, show (i + 1) * 3 + j - 3 = i * 3 + j by omega, pzs_at pb l i j (by simpa using hi) hj]
    rfl
theorem pzs_congr {pb pb' : Nat → Nat} {L : List Pz} (h : ∀ p ∈ L, pb p.k = pb' p.k) : pzs pb L = pzs pb' L := by
  induction L with
  | nil => rfl
  | cons p L ih =>
    show p.cells pb ++ pzs pb L = p.cells pb' ++ pzs pb' L
    rw [ih (fun q hq => h q (List.mem_cons_of_mem _ hq))]
    simp [Pz.cells, h p (List.mem_cons_self ..)]

/-- A row of pages of the call's own. -/
def OwnP (w : World) (base : Nat) (v : Value) (pb : Nat → Nat) (L : List Pz) : Prop := w.ownsRow base 78 3 v L.length (pzs pb L)
theorem OwnP.nil (w : World) (base : Nat) (pb : Nat → Nat) : OwnP w base (.slice none 0 0) pb [] := World.ownsRow_nil _ _ _ _

/-- The document's Memory lies in memory. -/
structure RA (w : World) (rb : Nat) (lv : Value) (pb : Nat → Nat) (L : List Pz) : Prop where
  cells : w.heap[rb]? = some (.cells #[lv] 28)
  row : OwnP w 0 lv pb L
  bytes : ∀ p ∈ L, w.heap[pb p.k]? = some (.cells (p.B.map (Value.int .u8)).toArray 5)
  inj : ∀ p ∈ L, ∀ q ∈ L, pb p.k = pb q.k → p.k = q.k
  mz : Mz L

/-- Its blocks. -/
def RS (rb : Nat) (lv : Value) (pb : Nat → Nat) (L : List Pz) (b : Nat) : Prop := b = rb ∨ lv.ownBlock = some b ∨ ∃ p ∈ L, b = pb p.k

theorem RA.rcell {w : World} {rb : Nat} {lv : Value} {pb : Nat → Nat} {L : List Pz} (h : RA w rb lv pb L) : w.cell? ⟨rb, 0, none⟩ = some lv := by
  simp [World.cell?, h.cells]
theorem RA.rfrz {w : World} {rb : Nat} {lv : Value} {pb : Nat → Nat} {L : List Pz} (h : RA w rb lv pb L) : w.frozen? ⟨rb, 0, none⟩ = false := by
  simp [World.frozen?, h.cells]
theorem RA.rlt {w : World} {rb : Nat} {lv : Value} {pb : Nat → Nat} {L : List Pz} (h : RA w rb lv pb L) : rb < w.heap.size := (Array.getElem?_eq_some_iff.1 h.cells).1
theorem RA.blt {w : World} {rb : Nat} {lv : Value} {pb : Nat → Nat} {L : List Pz} (h : RA w rb lv pb L) {p : Pz} (hp : p ∈ L) : pb p.k < w.heap.size := (Array.getElem?_eq_some_iff.1 (h.bytes p hp)).1
theorem RA.vlt {w : World} {rb : Nat} {lv : Value} {pb : Nat → Nat} {L : List Pz} (h : RA w rb lv pb L) {b : Nat} (hb : lv.ownBlock = some b) : b < w.heap.size := (h.row.lt b hb).2
theorem RA.slt {w : World} {rb : Nat} {lv : Value} {pb : Nat → Nat} {L : List Pz} (h : RA w rb lv pb L) {b : Nat} (hb : RS rb lv pb L b) : b < w.heap.size := by
  rcases hb with rfl | hb | ⟨p, hp, rfl⟩
  · exact h.rlt
  · exact h.vlt hb
  · exact h.blt hp

/-- The list as a slice; its cells. -/
theorem OwnP.any {w : World} {base : Nat} {v : Value} {pb : Nat → Nat} {L : List Pz} (h : OwnP w base v pb L) :
    ∃ ao cap, v = .slice ao L.length cap ∧ L.length ≤ cap ∧ cap ≤ 9223372036854775807 ∧ (ao = none → L = [] ∧ cap = 0) ∧ (∀ b o c, ao = some ⟨b, o, c⟩ → o = 0 ∧ c = none) ∧
      (∀ b, ao = some ⟨b, 0, none⟩ → (∃ cur : Array Value, w.heap[b]? = some (.cells cur 78)) ∧ ∀ i (hi : i < L.length), w.cell? ⟨b, i * 3, none⟩ = some (.int .u64 ((L[i].k * 4096 : Nat) : Int)) ∧ w.cell? ⟨b, i * 3 + 1, none⟩ = some (.int .i64 L[i].may) ∧ w.cell? ⟨b, i * 3 + 2, none⟩ = some (.slice (some ⟨pb L[i].k, 0, none⟩) 4096 4096)) := by
  rcases h.2 with ⟨hv, hn⟩ | ⟨g, cap, cur, hv, _, hg, h1, h2, _⟩
  · have hl : L = [] := List.eq_nil_of_length_eq_zero hn
    subst hl
    exact ⟨none, 0, hv, Nat.le_refl _, by omega, fun _ => ⟨rfl, rfl⟩, fun _ _ _ e => (by cases e), fun _ e => (by cases e)⟩
  · refine ⟨_, cap, hv, h1, by unfold maxLen at h2; omega, (fun e => by cases e), (fun _ _ _ e => by cases e; exact ⟨rfl, rfl⟩), ?_⟩
    intro b e
    cases e
    refine ⟨⟨cur, hg⟩, fun i hi => ?_⟩
    subst hv
    have hc : ∀ j, j < 3 → w.cell? ⟨g, i * 3 + j, none⟩ = (L[i].cells pb)[j]? := fun j hj => by
      have := h.cellAt (i * 3 + j) (by omega)
      rw [this, pzs_at pb L i j hi hj]
    exact ⟨hc 0 (by omega), hc 1 (by omega), hc 2 (by omega)⟩

theorem RA.turn {w w' : World} {rb : Nat} {lv : Value} {pb : Nat → Nat} {L : List Pz} (h : RA w rb lv pb L) {S : Nat → Prop} (ht : Turn S w w') (hs : ∀ b, RS rb lv pb L b → ¬ S b) : RA w' rb lv pb L := by
  refine ⟨?_, ht.row h.row (fun k hk => hs k (.inr (.inl hk))), fun p hp => ?_, h.inj, h.mz⟩
  · rw [ht.block rb h.rlt (hs rb (.inl rfl))]; exact h.cells
  · rw [ht.block _ (h.blt hp) (hs _ (.inr (.inr ⟨p, hp, rfl⟩)))]; exact h.bytes p hp
theorem RA.below {w w' : World} {rb : Nat} {lv : Value} {pb : Nat → Nat} {L : List Pz} (h : RA w rb lv pb L) (ht : Below w.heap.size w w') : RA w' rb lv pb L :=
  h.turn (Turn.of_below ht (fun _ => False)) (fun _ _ e => e)
theorem RA.bcell {w : World} {rb : Nat} {lv : Value} {pb : Nat → Nat} {L : List Pz} (h : RA w rb lv pb L) {p : Pz} (hp : p ∈ L) {i : Nat} (hi : i < 4096) : w.cell? ⟨pb p.k, i, none⟩ = some (.int .u8 (p.B.getD i 0)) := by
  have hl := (h.mz.ok p hp).len
  simp [World.cell?, h.bytes p hp, hl, hi]
theorem RA.bfrz {w : World} {rb : Nat} {lv : Value} {pb : Nat → Nat} {L : List Pz} (h : RA w rb lv pb L) {p : Pz} (hp : p ∈ L) {i : Nat} (hi : i < 4096) : w.frozen? ⟨pb p.k, i, none⟩ = false := by
  have hl := (h.mz.ok p hp).len
  simp [World.frozen?, h.bytes p hp, hl, hi]

end Go.Proofs.Ytpfmnopokfiheaa
