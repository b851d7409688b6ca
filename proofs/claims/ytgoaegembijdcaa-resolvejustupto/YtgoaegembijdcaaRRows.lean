/- Rows that are sorted. -/
import Derived.Test.YtgoaegembijdcaaRLay
import Derived.Test.YtgoaegembijdcaaRRight
import Derived.Shelf.SlSortCmp.WholeK
import Derived.Shelf.SlSortCmp.NoneTotal
import Derived.Shelf.Small.Strs
namespace Go.Proofs.Ytgoaegembijdcaa
open Go.ChangeShapes Go.WideShapes Go.ChangeAt Go.RowKit Go.Maps
set_option linter.unusedVariables false
set_option linter.unusedSimpArgs false

def encU (r : ByteArray × Us) : List Value := [.string r.1, .string r.2.m.nm, .int .i64 r.2.m.o, .int .i64 r.2.m.k, .int .i64 r.2.m.b, .int .i64 r.2.m.t, .bool r.2.d, .int .i64 r.2.st, .bool r.2.wa, .bool r.2.tl, .bool r.2.ot]
def encS (r : ByteArray × Sh) : List Value := [.string r.1, .int .i64 r.2.k, .int .i64 r.2.f, .bool r.2.th, .bool r.2.un]
def cfR {α : Type} (x y : ByteArray × α) : Int := Lib.compareBytes x.1.data.toList y.1.data.toList
theorem encU_len (r : ByteArray × Us) : (encU r).length = 11 := rfl
theorem encS_len (r : ByteArray × Sh) : (encS r).length = 5 := rfl
theorem encU_one (r : ByteArray × Us) : ∀ v ∈ encU r, v.oneCell' = true := List.all_eq_true.1 rfl
theorem encS_one (r : ByteArray × Sh) : ∀ v ∈ encS r, v.oneCell' = true := List.all_eq_true.1 rfl
theorem lt_cfR {α : Type} (x y : ByteArray × α) : ltOf cfR x y = true ↔ bef x.1 y.1 := by unfold ltOf cfR bef; simp
theorem swoR {α : Type} : Sort.SWO (ltOf (cfR (α := α))) where
  irrefl x := by
    cases h : ltOf cfR x x
    · rfl
    · exact absurd ((lt_cfR x x).1 h) (bef_irrefl _)
  trans x y z h1 h2 := (lt_cfR x z).2 (bef_trans ((lt_cfR x y).1 h1) ((lt_cfR y z).1 h2))
  ntrans x y z h1 h2 := by
    cases h : ltOf cfR x z
    · rfl
    · have h1' : ¬ bef x.1 y.1 := fun e => by rw [(lt_cfR x y).2 e] at h1; cases h1
      have h2' : ¬ bef y.1 z.1 := fun e => by rw [(lt_cfR y z).2 e] at h2; cases h2
      have h3 := (lt_cfR x z).1 h
      exfalso
      by_cases e : bef y.1 x.1
      · exact h2' (bef_trans e h3)
      · have e2 := bef_tri h1' e
        rw [e2] at h3
        exact h2' h3

theorem flatK_toList {α : Type} [Inhabited α] {enc : α → List Value} {k : Nat} (hk : ∀ x, (enc x).length = k) (hk0 : 0 < k) (d : Array α) : (Sort.flatK enc k d).toList = d.toList.flatMap enc := by
  apply List.ext_getElem?
  intro t
  by_cases ht : t < d.size * k
  · have hi : t / k < d.size := by
      rw [Nat.div_lt_iff_lt_mul hk0]; exact ht
    have hj : t % k < k := Nat.mod_lt _ hk0
    have e : t = t / k * k + t % k := by
      have := Nat.div_add_mod t k
      rw [Nat.mul_comm] at this
      omega
    have h1 := Sort.get_flatK enc k d t ht
    rw [Array.getElem?_toList, Array.getElem?_eq_getElem (by simpa using ht)]
    have h2 : (Sort.flatK enc k d)[t]! = (Sort.flatK enc k d)[t]'(by simpa using ht) := getElem!_pos _ _ _
    rw [← h2, h1]
    conv => rhs; rw [e]
    rw [flat_at hk d.toList (t / k) (t % k) (by simpa using hi) hj]
    have h3 : d[t / k]! = d.toList[t / k]'(by simpa using hi) := by rw [getElem!_pos d (t / k) hi]; simp
    rw [h3]
    rw [List.getElem?_eq_getElem (by rw [hk]; exact hj), getElem!_pos _ _ (by rw [hk]; exact hj)]
  · rw [List.getElem?_eq_none (by simp; omega), List.getElem?_eq_none (by rw [flat_len hk]; simp; omega)]

section
variable {α : Type} [Inhabited α] {e k : Nat} {enc : α → List Value} {w : World} {base : Nat} {v : Value} {l : List α}
/-- A row that is not empty, as the sort asks for it; and behind the sort. -/
theorem OwnR.sorts (hk : ∀ x, (enc x).length = k) (hk0 : 0 < k) (h : OwnR e k enc w base v l) (hne : l ≠ []) :
    ∃ g cap, v = .slice (some ⟨g, 0, none⟩) l.length cap ∧ base ≤ g ∧ g < w.heap.size ∧ Sort.HoldsK enc k w g 0 l.toArray ∧
      ∀ (d : Array α) (n : Nat) (os : Array Obj), d.size = l.length → OwnR e k enc (sortWorldK enc k w g 0 n d os) base v d.toList ∧ w.grownBy (sortWorldK enc k w g 0 n d os) (some g) := by
  rcases h.2 with ⟨hv, hn⟩ | ⟨g, cap, cur, hv, hb, hg, h1, h2, h3, h4⟩
  · exact absurd (List.eq_nil_of_length_eq_zero hn) hne
  · have hgl : g < w.heap.size := (Array.getElem?_eq_some_iff.1 hg).1
    have hflat : l.length * k ≤ cur.size := by rw [h3]; exact Nat.mul_le_mul_right k h1
    refine ⟨g, cap, hv, hb, hgl, ?_, fun d n os hd => ⟨?_, ?_⟩⟩
    · intro j hj
      have hj' : j < l.length * k := by simpa using hj
      refine ⟨?_, by simp [World.frozen?, hg]⟩
      have e1 : (cur.toList.take (l.length * k))[j]? = (l.flatMap enc)[j]? := by rw [h4]
      rw [List.getElem?_take_of_lt hj'] at e1
      have e2 := flatK_toList hk hk0 l.toArray
      have e3 : (Sort.flatK enc k l.toArray)[j]? = (l.flatMap enc)[j]? := by rw [← Array.getElem?_toList, e2]
      have e4 : (Sort.flatK enc k l.toArray)[j]! = (Sort.flatK enc k l.toArray)[j]'(by simpa using hj) := getElem!_pos _ _ _
      simp only [World.cell?, hg, Nat.zero_add]
      simp only [Option.isSome_none, Bool.false_eq_true, if_false]
      rw [← Array.getElem?_toList, e1, ← e3, e4, Array.getElem?_eq_getElem (by simpa using hj)]
      rfl
    · subst hv
      have hh : (sortWorldK enc k w g 0 n d os).heap[g]? = some (.cells (Sort.putCells id 0 (Sort.flatK enc k d) cur) e (0, 0)) := by
        unfold sortWorldK Sort.putRowK
        rw [Sort.heap_grow_old _ _ (by simpa using hgl)]
        simp [Sort.putRow, Sort.mapBlock, Sort.ahead, Array.getElem?_modify, hg, Sort.onCells]
      refine ⟨by rw [flat_len hk]; try simp, .inr ⟨g, cap, _, by simp [hd], hb, hh, by simp [hd]; omega, h2, by simp [Sort.putCells, h3], ?_⟩⟩
      rw [← flatK_toList hk hk0 d]
      apply List.ext_getElem?
      intro j
      by_cases hj : j < d.toList.length * k
      · have hj2 : j < d.size * k := by simpa using hj
        have hj3 : j < cur.size := by rw [hd] at hj2; omega
        rw [List.getElem?_take_of_lt hj, Array.getElem?_toList, Array.getElem?_toList]
        simp only [Sort.putCells]
        simp [hj3, hj2]
      · rw [List.getElem?_take_eq_none (by omega), List.getElem?_eq_none (by simp at hj ⊢; omega)]
    · refine ⟨rfl, rfl, rfl, by unfold sortWorldK Sort.putRowK; simp, fun q hq hne' => ?_⟩
      unfold sortWorldK Sort.putRowK
      rw [Sort.heap_grow_old _ _ (by simpa using hq)]
      have : g ≠ q := fun e => hne' (by rw [e])
      simp [Sort.putRow, Sort.mapBlock, Sort.ahead, Array.getElem?_modify, this]
end

/-- What is sorted is what the map says, rising. -/
theorem rowsOf_sorted {α : Type} [Inhabited α] {m : ByteArray → Option α} {left : Lit → Bool} {ss : List (ByteArray × α)} (hC : Coll m left ss) (hl : ∀ q, left q = false) {d' : Array (ByteArray × α)} (hp : Sort.PermIn 0 ss.toArray.size ss.toArray d') (hs : Sort.SortedIn (ltOf cfR) 0 ss.toArray.size d') : RowsOf d'.toList m ∧ d'.size = ss.length := by
  obtain ⟨h1, _, h2⟩ := hp
  have hz : d'.size = ss.length := by simpa using h1
  have hperm : d'.toList.Perm ss := by
    have e1 : d'.extract 0 ss.toArray.size = d' := by rw [← h1]; simp
    have e2 : ss.toArray.extract 0 ss.toArray.size = ss.toArray := by simp
    rw [e1, e2] at h2
    simpa using h2
  have hnd : (d'.toList.map (·.1)).Nodup := (hperm.map _).nodup_iff.2 hC.nd
  refine ⟨⟨?_, fun n v => ?_⟩, hz⟩
  · rw [List.pairwise_iff_getElem]
    intro i j hi hj hij
    have hi' : i < d'.size := by simpa using hi
    have hj' : j < d'.size := by simpa using hj
    have h := hs i j (Nat.zero_le _) hij (by simpa [← hz] using hj')
    rw [getElem!_pos d' i hi', getElem!_pos d' j hj'] at h
    have hb : ¬ bef d'[j].1 d'[i].1 := fun e => by rw [(lt_cfR _ _).2 e] at h; cases h
    rw [Array.getElem_toList, Array.getElem_toList]
    refine Classical.byContradiction fun hn => ?_
    have e := bef_tri hn hb
    have := List.pairwise_iff_getElem.1 hnd i j (by simpa using hi') (by simpa using hj') hij
    simp at this
    exact this e
  · rw [hperm.mem_iff, hC.mem n v, hl]
    simp
theorem key_is {t : ByteArray} {q : Lit} (h : keyOf Try.prog 9 (.string t) = some q) : q = kl t ∧ t.size ≤ maxLen := by
  obtain ⟨x, ex, rfl, hx⟩ := Maps.keyOf_str Try.underlying9 h
  have e : t = ⟨x.toArray⟩ := by unfold Go.Proofs.encStr at ex; injection ex
  subst e
  exact ⟨by unfold kl; simp, by show x.toArray.size ≤ maxLen; simpa using hx⟩
theorem Step.grow {w w' : World} {v v' : Value} (h : Step w w' v v') : w.grownBy w' v.ownBlock :=
  ⟨h.turn.os, h.turn.tape, h.turn.output, h.turn.size, fun i hi hne => h.turn.block i hi (fun e => hne e.symm)⟩
theorem strCmp_any (a b : ByteArray) (w : World) : Calls Try.prog 53 #[.string a, .string b] w fun e w' => e = .returned (.int .i64 (Lib.compareBytes a.data.toList b.data.toList)) ∧ w' = w := Any.strings_Compare Try.cmpStr a b w
end Go.Proofs.Ytgoaegembijdcaa
