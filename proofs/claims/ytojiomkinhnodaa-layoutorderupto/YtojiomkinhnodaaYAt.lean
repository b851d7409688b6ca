/- Places of all sections, in memory. -/
import Derived.Test.YtojiomkinhnodaaYGath
import Derived.Deep.OwnRows
namespace Go.Proofs.Ytojiomkinhnodaa
open Go.ChangeShapes Go.WideShapes Go.ChangeAt Go.RowKit Go.Maps
set_option linter.unusedVariables false
set_option linter.unusedSimpArgs false

structure Sl where
  a : Option Addr
  n : Nat
  c : Nat
def encV (s : Sl) : List Value := [.slice s.a s.n s.c]
theorem encV_len (r : Sl) : (encV r).length = 1 := rfl
theorem encV_one (r : Sl) : ∀ v ∈ encV r, v.oneCell' = true := List.all_eq_true.1 rfl
def rowV (bs : Nat → Nat) (ns : List Nat) : List Sl := (List.range ns.length).map (fun i => ⟨some ⟨bs i, 0, none⟩, ns.getD i 0, ns.getD i 0⟩)
theorem grown_setC (w : World) (g j : Nat) (V : Value) : w.grownBy (w.setCell ⟨g, j, none⟩ V) (some g) := ⟨rfl, rfl, rfl, by simp [World.setCell], fun k _ hk => Below.heap_setCell _ _ _ _ (fun e => hk (by rw [e]))⟩
theorem grown_setR (w : World) (g : Nat) (V : Array Value) : w.grownBy (w.setRow g V) (some g) := ⟨rfl, rfl, rfl, by simp, fun k _ hk => setRow_other w g k _ (fun e => hk (by rw [e]))⟩
def ints (n : Nat) (f : Nat → Int) : Array Value := ((List.range n).map (fun k => Value.int .i64 (f k))).toArray
theorem ints_at (n : Nat) (f : Nat → Int) (k : Nat) (hk : k < n) : (ints n f)[k]? = some (.int .i64 (f k)) := by simp [ints, hk]
theorem ints_set (n : Nat) (f : Nat → Int) (k : Nat) (x : Int) : (ints n f).setIfInBounds k (.int .i64 x) = ints n (fun t => if t = k then x else f t) := by
  unfold ints
  rw [List.setIfInBounds_toArray]
  congr 1
  apply List.ext_getElem (by simp)
  intro i h1 h2
  simp only [List.getElem_set, List.getElem_map, List.getElem_range]
  by_cases e : k = i
  · subst e; simp
  · rw [if_neg e, if_neg (fun h => e h.symm)]
theorem ints_congr (n : Nat) (f g : Nat → Int) (h : ∀ k, k < n → f k = g k) : ints n f = ints n g := by
  unfold ints
  congr 1
  exact List.map_congr_left fun k hk => by rw [h k (List.mem_range.1 hk)]
theorem ints_rep (n : Nat) (x : Int) : Array.replicate n (Value.int .i64 x) = ints n (fun _ => x) := by
  apply Array.ext
  · simp [ints]
  · intro i h1 h2
    simp [ints]
/-- The row v holds rows of numbers, row i in block bs i. -/
structure AT (w : World) (B : Nat) (v : Value) (bs : Nat → Nat) (ns : List Nat) (f : Nat → Nat → Int) : Prop where
  row : OwnR 48 1 encV w B v (rowV bs ns)
  bk : ∀ i, i < ns.length → B ≤ bs i ∧ Bk w (bs i) 3 (ints (ns.getD i 0) (f i))
  inj : ∀ i j, i < ns.length → j < ns.length → bs i = bs j → i = j
section
variable {w w' : World} {B : Nat} {v v' : Value} {bs : Nat → Nat} {ns : List Nat} {f : Nat → Nat → Int}
theorem AT.nil (w : World) (B : Nat) (bs : Nat → Nat) (f : Nat → Nat → Int) : AT w B (.slice none 0 0) bs [] f :=
  ⟨OwnR.nil _ _, fun i h => by simp at h, fun i j h => by simp at h⟩
theorem AT.bel (h : AT w B v bs ns f) (g : Below w.heap.size w w') : AT w' B v bs ns f :=
  ⟨own_bel h.row g, fun i hi => ⟨(h.bk i hi).1, (h.bk i hi).2.bel g (h.bk i hi).2.lt⟩, h.inj⟩
theorem AT.far (h : AT w B v bs ns f) {row : Option Nat} (g : w.grownBy w' row) (h1 : ∀ q, v.ownBlock = some q → row ≠ some q) (h2 : ∀ i, i < ns.length → row ≠ some (bs i)) : AT w' B v bs ns f :=
  ⟨own_far h.row g h1, fun i hi => ⟨(h.bk i hi).1, (h.bk i hi).2.of (g.block _ (h.bk i hi).2.lt (fun e => h2 i hi e.symm))⟩, h.inj⟩
theorem AT.ne_row (h : AT w B v bs ns f) (i : Nat) (hi : i < ns.length) : v.ownBlock ≠ some (bs i) := own_ne_bk h.row (h.bk i hi).2 (by decide)
theorem AT.congr (h : AT w B v bs ns f) {g : Nat → Nat → Int} (e : ∀ i k, i < ns.length → k < ns.getD i 0 → f i k = g i k) : AT w B v bs ns g :=
  ⟨h.row, fun i hi => ⟨(h.bk i hi).1, by rw [← ints_congr _ (f i) (g i) (fun k hk => e i k hi hk)]; exact (h.bk i hi).2⟩, h.inj⟩
/-- One number is set. -/
theorem AT.set (h : AT w B v bs ns f) (i k : Nat) (hi : i < ns.length) (x : Int) : AT (w.setCell ⟨bs i, k, none⟩ (.int .i64 x)) B v bs ns (setA f i k x) := by
  refine ⟨own_setC h.row (h.ne_row i hi) _ _, fun j hj => ⟨(h.bk j hj).1, ?_⟩, h.inj⟩
  by_cases e : j = i
  · subst e
    have := (h.bk j hj).2.setC k (.int .i64 x)
    rw [ints_set] at this
    rw [ints_congr _ (setA f j k x j) (fun t => if t = k then x else f j t) (fun t _ => by unfold setA; by_cases e2 : t = k <;> simp [e2])]
    exact this
  · rw [ints_congr _ (setA f i k x j) (f j) (fun t _ => by unfold setA; rw [if_neg (fun h2 => e h2.1)])]
    exact (h.bk j hj).2.setCo _ _ (fun e2 => e (h.inj j i hj hi e2))
theorem getD_l {ns : List Nat} {n i : Nat} (h : i < ns.length) : (ns ++ [n]).getD i 0 = ns.getD i 0 := by
  rw [List.getD_eq_getElem?_getD, List.getD_eq_getElem?_getD, List.getElem?_append_left h]
theorem getD_r {ns : List Nat} {n : Nat} : (ns ++ [n]).getD ns.length 0 = n := by
  rw [List.getD_eq_getElem?_getD, List.getElem?_append_right (Nat.le_refl _)]; simp
/-- One row more. -/
theorem AT.put (h : AT w B v bs ns f) {q n : Nat} {g : Nat → Int} (hq : Bk w q 3 (ints n g)) (hqB : B ≤ q) (hne : ∀ i, i < ns.length → bs i ≠ q) (hs : Step w w' v v') (ho : OwnR 48 1 encV w' B v' (rowV bs ns ++ [⟨some ⟨q, 0, none⟩, n, n⟩])) :
    AT w' B v' (fun i => if i = ns.length then q else bs i) (ns ++ [n]) (fun i => if i = ns.length then g else f i) := by
  have hqv : v.ownBlock ≠ some q := own_ne_bk h.row hq (by decide)
  refine ⟨?_, fun i hi => ?_, fun i j hi hj e => ?_⟩
  · have e : rowV (fun i => if i = ns.length then q else bs i) (ns ++ [n]) = rowV bs ns ++ [⟨some ⟨q, 0, none⟩, n, n⟩] := by
      unfold rowV
      rw [List.length_append, List.length_singleton, List.range_succ, List.map_append]
      congr 1
      · refine List.map_congr_left fun i hi => ?_
        have := List.mem_range.1 hi
        dsimp only
        rw [if_neg (by omega), getD_l this]
      · rw [List.map_singleton, getD_r]
        dsimp only
        rw [if_pos rfl]
    rw [e]; exact ho
  · rw [List.length_append, List.length_singleton] at hi
    by_cases e : i = ns.length
    · subst e
      simp only [if_pos]
      refine ⟨hqB, ?_⟩
      rw [getD_r]
      exact hq.turn hs.turn hqv
    · simp only [if_neg e]
      have hi' : i < ns.length := by omega
      rw [getD_l hi']
      exact ⟨(h.bk i hi').1, (h.bk i hi').2.turn hs.turn (h.ne_row i hi')⟩
  · rw [List.length_append, List.length_singleton] at hi hj
    by_cases e1 : i = ns.length
    · by_cases e2 : j = ns.length
      · omega
      · rw [if_pos e1, if_neg e2] at e
        exact absurd e.symm (hne j (by omega))
    · by_cases e2 : j = ns.length
      · rw [if_neg e1, if_pos e2] at e
        exact absurd e (hne i (by omega))
      · rw [if_neg e1, if_neg e2] at e
        exact h.inj i j (by omega) (by omega) e
/-- What the row reads as. -/
theorem AT.any (h : AT w B v bs ns f) : ∃ ao cap, v = .slice ao ns.length cap ∧ (ns.length = 0 ∨ ∃ g, ao = some ⟨g, 0, none⟩ ∧ B ≤ g ∧ ∀ i, i < ns.length → w.cell? ⟨g, i, none⟩ = some (.slice (some ⟨bs i, 0, none⟩) (ns.getD i 0) (ns.getD i 0)) ∧ ∀ k, k < ns.getD i 0 → w.cell? ⟨bs i, k, none⟩ = some (.int .i64 (f i k))) := by
  have hl : (rowV bs ns).length = ns.length := by simp [rowV]
  obtain ⟨ao, cap, hv, _, _, _, hc⟩ := h.row.any encV_len
  rw [hl] at hv
  refine ⟨ao, cap, hv, ?_⟩
  rcases hc with hc | ⟨g, hg, hB, _, hc⟩
  · left; rw [← hl, hc]; rfl
  · right
    refine ⟨g, hg, hB, fun i hi => ⟨?_, fun k hk => (h.bk i hi).2.cell k (ints_at _ _ k hk)⟩⟩
    have := hc i (by rw [hl]; exact hi) 0 (by decide)
    rw [Nat.mul_one, Nat.add_zero] at this
    rw [this]
    simp [encV, rowV]
end
theorem infoI : (Try.prog.info? 3).map (fun i => (i.zero, i.size, i.bytes)) = some (some (.int .i64 0), 1, 8) := by kernel_rfl
theorem infoSI : (Try.prog.info? 48).map (fun i => (i.zero, i.size, i.bytes)) = some (some (.slice none 0 0), 1, 24) := by kernel_rfl
theorem makeI (n : Nat) (hn : n ≤ 2097152) (w : World) : (Instr.makeSlice 48 (.int .i64 (n : Int)) (.int .i64 (n : Int))).run Try.prog w = .ok (.slice (some ⟨w.heap.size, 0, none⟩) n n) (w.alloc (.cells (ints n (fun _ => 0)) 3)) := by
  rw [run_make_row' 48 3 (.int .i64 0) 8 Try.underlying48 infoI rfl .i64 .i64 n (by omega) (by omega) w]
  rw [← ints_rep]
  congr 2
  congr 1
  apply Array.ext
  · simp [madeCells]
  · intro i h1 h2
    simp [madeCells, Nat.mod_one, Value.cells]
end Go.Proofs.Ytojiomkinhnodaa
