/- Names, sorted by where they first stand. -/
import Derived.Test.YtojiomkinhnodaaYLay
import Derived.Shelf.SlSortCmp.Whole1
import Derived.Shelf.SlSortCmp.NoneTotal
namespace Go.Proofs.Ytojiomkinhnodaa
open Go.ChangeShapes Go.WideShapes Go.ChangeAt Go.RowKit Go.Maps
set_option linter.unusedVariables false
set_option linter.unusedSimpArgs false

theorem sorted_uni {α : Type} (f : α → Int) : ∀ {L L' : List α}, L.Pairwise (fun x y => f x < f y) → L'.Pairwise (fun x y => f x < f y) → (∀ x, x ∈ L ↔ x ∈ L') → L = L'
  | [], [], _, _, _ => rfl
  | [], y :: r, _, _, h => absurd ((h y).2 (by simp)) (by simp)
  | x :: r, [], _, _, h => absurd ((h x).1 (by simp)) (by simp)
  | x :: r, y :: s, h1, h2, h => by
    obtain ⟨h3, h4⟩ := List.pairwise_cons.1 h1
    obtain ⟨h5, h6⟩ := List.pairwise_cons.1 h2
    have e : x = y := by
      rcases List.mem_cons.1 ((h x).1 (by simp)) with e | e
      · exact e
      · rcases List.mem_cons.1 ((h y).2 (by simp)) with e' | e'
        · exact e'.symm
        · have := h3 _ e'
          have := h5 _ e
          omega
    subst e
    rw [sorted_uni f h4 h6 (fun z => ?_)]
    constructor
    · intro hz
      rcases List.mem_cons.1 ((h z).1 (by simp [hz])) with e | e
      · subst e; have := h3 _ hz; omega
      · exact e
    · intro hz
      rcases List.mem_cons.1 ((h z).2 (by simp [hz])) with e | e
      · subst e; have := h5 _ hz; omega
      · exact e
theorem ps_head_mem {U : List So} {n : ByteArray} (h : ps U n ≠ []) : (ps U n).headD default ∈ U ∧ ((ps U n).headD default).s.nm = n := by
  cases e : ps U n with
  | nil => exact absurd e h
  | cons x r => exact ps_mem.1 (show x ∈ ps U n by rw [e]; simp)
theorem key_inj {U : List So} (hU : U.Pairwise ahd) (hk : ∀ x ∈ U, x.k < 64) {n m : ByteArray} (hn : ps U n ≠ []) (hm : ps U m ≠ []) (h : keyN U n = keyN U m) : n = m := by
  obtain ⟨a1, a2⟩ := ps_head_mem hn
  obtain ⟨b1, b2⟩ := ps_head_mem hm
  unfold keyN at h
  have h1 := hk _ a1
  have h2 := hk _ b1
  generalize (ps U n).headD default = x at *
  generalize (ps U m).headD default = y at *
  have e : x = y := by
    obtain ⟨i, hi, rfl⟩ := List.getElem_of_mem a1
    obtain ⟨j, hj, rfl⟩ := List.getElem_of_mem b1
    rcases Nat.lt_trichotomy i j with q | q | q
    · have := List.pairwise_iff_getElem.1 hU i j hi hj q
      unfold ahd at this; omega
    · subst q; rfl
    · have := List.pairwise_iff_getElem.1 hU j i hj hi q
      unfold ahd at this; omega
  rw [← a2, ← b2, e]
theorem fsts_key {U : List So} (hU : U.Pairwise ahd) (hk : ∀ x ∈ U, x.k < 64) : ((fsts U).map (·.s.nm)).Pairwise (fun a b => keyN U a < keyN U b) := by
  rw [List.pairwise_map]
  refine List.Pairwise.imp_of_mem ?_ (fsts_up hU)
  intro x y hx hy h
  have h1 := hk x ((fsts_sub U).subset hx)
  have h2 := hk y ((fsts_sub U).subset hy)
  unfold keyN
  rw [fsts_head x hx, fsts_head y hy]
  unfold ahd at h
  omega
theorem mem_names {U : List So} {n : ByteArray} : n ∈ (fsts U).map (·.s.nm) ↔ ps U n ≠ [] := by
  rw [← any_ps, ← fsts_any, List.any_eq_true, List.mem_map]
  constructor
  · rintro ⟨x, h, e⟩; exact ⟨x, h, nB_iff.2 e⟩
  · rintro ⟨x, h, e⟩; exact ⟨x, h, nB_iff.1 e⟩
/-- Sorted names are those of the first ones. -/
theorem names_sorted {U : List So} (hU : U.Pairwise ahd) (hk : ∀ x ∈ U, x.k < 64) {ss : List ByteArray} (hm : ∀ t, t ∈ ss ↔ ps U t ≠ []) (hnd : ss.Nodup) (hs : ss.Pairwise (fun a b => keyN U a ≤ keyN U b)) : ss = (fsts U).map (·.s.nm) := by
  refine sorted_uni (keyN U) ?_ (fsts_key hU hk) (fun t => by rw [hm, mem_names])
  have h2 := hs.and hnd
  refine List.Pairwise.imp_of_mem ?_ h2
  rintro a b ha hb ⟨h3, h4⟩
  have : keyN U a ≠ keyN U b := fun e => h4 (key_inj hU hk ((hm a).1 ha) ((hm b).1 hb) e)
  omega

section
variable {U : List So}
abbrev Nm (U : List So) := { t : ByteArray // ps U t ≠ [] }
def encN (x : Nm U) : Value := .string x.1
theorem encN_one : OneCell (encN (U := U)) := fun x => rfl
def cfN (x y : Nm U) : Int := cmpI (keyN U x.1) (keyN U y.1)
theorem lt_cfN (x y : Nm U) : ltOf cfN x y = true ↔ keyN U x.1 < keyN U y.1 := by
  unfold ltOf cfN cmpI
  split
  · simp; assumption
  · split
    · simp; omega
    · simp; omega
theorem swoN : Sort.SWO (ltOf (cfN (U := U))) where
  irrefl x := by
    cases h : ltOf cfN x x
    · rfl
    · have := (lt_cfN x x).1 h; omega
  trans x y z h1 h2 := (lt_cfN x z).2 (by have := (lt_cfN x y).1 h1; have := (lt_cfN y z).1 h2; omega)
  ntrans x y z h1 h2 := by
    cases h : ltOf cfN x z
    · rfl
    · have h3 := (lt_cfN x z).1 h
      have h4 : ¬ keyN U x.1 < keyN U y.1 := fun e => by rw [(lt_cfN x y).2 e] at h1; cases h1
      have h5 : ¬ keyN U y.1 < keyN U z.1 := fun e => by rw [(lt_cfN y z).2 e] at h2; cases h2
      omega
variable [Inhabited (Nm U)]
/-- A row of names that is not empty, as the sort asks for it; and behind the sort. -/
theorem OwnS.sorts {w : World} {base : Nat} {v : Value} {l : List (Nm U)} (h : OwnS w base v (l.map (·.1))) (hne : l ≠ []) :
    ∃ g cap, v = .slice (some ⟨g, 0, none⟩) l.length cap ∧ base ≤ g ∧ g < w.heap.size ∧ Sort.Holds encN w g 0 l.toArray ∧
      ∀ (d : Array (Nm U)) (n : Nat) (os : Array Obj), d.size = l.length → OwnS (sortWorld encN w g 0 n d os) base v (d.toList.map (·.1)) ∧ w.grownBy (sortWorld encN w g 0 n d os) (some g) := by
  rcases h.2 with ⟨hv, hn⟩ | ⟨g, cap, cur, hv, hb, hg, h1, h2, h3, h4⟩
  · exact absurd (by simpa using hn) hne
  · have hgl : g < w.heap.size := (Array.getElem?_eq_some_iff.1 hg).1
    simp only [List.length_map, Nat.mul_one] at hv h1 h4
    have hsz : l.length ≤ cur.size := by rw [h3]; omega
    refine ⟨g, cap, hv, hb, hgl, ?_, fun d n os hd => ⟨?_, ?_⟩⟩
    · intro j hj
      have hj' : j < l.length := by simpa using hj
      refine ⟨?_, by simp [World.frozen?, hg]⟩
      have e1 : (cur.toList.take l.length)[j]? = ((l.map (·.1)).map Value.string)[j]? := by rw [h4]
      rw [List.getElem?_take_of_lt hj'] at e1
      simp only [World.cell?, hg, Nat.zero_add, Option.isSome_none, Bool.false_eq_true, if_false]
      rw [← Array.getElem?_toList, e1]
      have e4 : l.toArray[j]! = l.toArray[j]'hj := getElem!_pos _ _ _
      rw [e4]
      simp [hj', encN]
    · subst hv
      have hh : (sortWorld encN w g 0 n d os).heap[g]? = some (.cells (Sort.putCells encN 0 d cur) 9 (0, 0)) := by
        unfold sortWorld
        rw [Sort.heap_grow_old _ _ (by simpa using hgl)]
        simp [Sort.putRow, Sort.mapBlock, Sort.ahead, Array.getElem?_modify, hg, Sort.onCells]
      refine ⟨by simp, .inr ⟨g, cap, _, by simp [hd], hb, hh, by simp [hd]; omega, h2, by simp [Sort.putCells, h3], ?_⟩⟩
      apply List.ext_getElem?
      intro j
      simp only [List.length_map, Nat.mul_one]
      by_cases hj : j < d.toList.length
      · have hj2 : j < d.size := by simpa using hj
        have hj3 : j < cur.size := by omega
        have e4 : d[j]! = d[j]'hj2 := getElem!_pos _ _ _
        rw [List.getElem?_take_of_lt hj, Array.getElem?_toList]
        simp only [Sort.putCells]
        simp [hj3, hj2, e4, encN]
      · rw [List.getElem?_take_eq_none (by omega), List.getElem?_eq_none (by simp at hj ⊢; omega)]
    · refine ⟨rfl, rfl, rfl, by unfold sortWorld Sort.putRow; simp [Sort.grow, Sort.mapBlock, Sort.ahead], fun q hq hne' => ?_⟩
      unfold sortWorld
      rw [Sort.heap_grow_old _ _ (by simpa using hq)]
      have : g ≠ q := fun e => hne' (by rw [e])
      simp [Sort.putRow, Sort.mapBlock, Sort.ahead, Array.getElem?_modify, this]
end
end Go.Proofs.Ytojiomkinhnodaa
