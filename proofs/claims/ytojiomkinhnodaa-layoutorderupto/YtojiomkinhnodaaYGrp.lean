/- sortBy; rows of names by groups. -/
import Derived.Test.YtojiomkinhnodaaYSort
namespace Go.Proofs.Ytojiomkinhnodaa
open Go.ChangeShapes Go.WideShapes Go.ChangeAt Go.RowKit Go.Maps
set_option linter.unusedVariables false
set_option linter.unusedSimpArgs false

structure UB (U : List So) : Prop where
  ok : ∀ x ∈ U, x.o ≤ 1048577 ∧ x.k ≤ 1048577
  nm : ∀ x ∈ U, x.s.nm.size ≤ 9223372036854775807
theorem UB.nz {U : List So} (h : UB U) {n : ByteArray} (hn : ps U n ≠ []) : n.size ≤ maxLen := by
  obtain ⟨h1, h2⟩ := ps_head_mem hn
  have := h.nm _ h1
  rw [h2] at this
  exact this
set_option maxHeartbeats 2000000 in
set_option maxRecDepth 20000 in
theorem sortBy_any {w : World} {B b X base : Nat} {U : List So} {F : ByteArray → Option (Ou × Value)} (hU : UB U) (h : MG w B b U F) (hX : w.cell? ⟨X, 0, none⟩ = some (.map (some b))) (hb : b < base) (hXb : X < base) (hF : ∀ n p, F n = some p → ∀ q, p.2.ownBlock = some q → q < base) {v : Value} {l : List (Nm U)} (ho : OwnS w base v (l.map (·.1))) (hl : l.length < 4611686018427387904) :
    Calls Try.prog 38 #[v, .func (.func 39) #[] #[.pointer (some ⟨X, 0, none⟩)]] w fun e w' => e = .returned (.tuple #[]) ∧ ∃ d : List (Nm U), d.Perm l ∧ d.Pairwise (fun a b => keyN U a.1 ≤ keyN U b.1) ∧ OwnS w' base v (d.map (·.1)) ∧ w.grownBy w' v.ownBlock := by
  obtain ⟨w1, hw1⟩ : ∃ w1, w.alloc (.cells #[.func (.func 39) #[] #[.pointer (some ⟨X, 0, none⟩)]] 98) = w1 := ⟨_, rfl⟩
  have hg0 : w.grownBy w1 none := by rw [← hw1]; exact World.grownBy_alloc w _ none
  have hY : w1.cell? ⟨w.heap.size, 0, none⟩ = some (.func (.func 39) #[] #[.pointer (some ⟨X, 0, none⟩)]) := by rw [← hw1]; exact (Bk.new _ _ _).cell 0 rfl
  have hg1 : MG w1 B b U F := by rw [← hw1]; exact h.alloc _
  have hX1 : w1.cell? ⟨X, 0, none⟩ = some (.map (some b)) := by rw [← hw1]; exact up_c hX ((Below.refl _ _).alloc (Nat.le_refl _) _)
  have ho1 : OwnS w1 base v (l.map (·.1)) := by rw [← hw1]; exact World.ownsRow.alloc ho _
  have hsz1 : w1.heap.size = w.heap.size + 1 := by rw [← hw1]; simp
  have HS : Hid (Calls Try.prog 51 #[v, .func (.func 52) #[] #[.pointer (some ⟨w.heap.size, 0, none⟩)]] w1 fun e w' => e = .returned (.tuple #[]) ∧ ∃ d : List (Nm U), d.Perm l ∧ d.Pairwise (fun a b => keyN U a.1 ≤ keyN U b.1) ∧ OwnS w' base v (d.map (·.1)) ∧ w.grownBy w' v.ownBlock) := by
    refine ⟨?_⟩
    by_cases he : l = []
    · subst he
      obtain ⟨ao, cap, rfl, _⟩ := ho1.any
      refine (AnyF.slices_SortFunc_none { Try.sortN with } ao cap _ w1).mono ?_
      rintro e w' ⟨rfl, rfl⟩
      exact ⟨rfl, [], List.Perm.refl _, List.Pairwise.nil, ho1, hg0.1, hg0.2, hg0.3, hg0.4, fun k hk _ => hg0.block k hk (by simp)⟩
    · haveI : Inhabited (Nm U) := ⟨l.head he⟩
      obtain ⟨g, cap, rfl, hbg, hgl, hH, hback⟩ := ho1.sorts he
      have hcon := Any.slices_SortFunc Try.sortN encN encN_one cfN swoN 52 #[.pointer (some ⟨w.heap.size, 0, none⟩)] g 0 cap l.toArray w1 entC (fun m os dk hd x y => by
        have hgr := (hback dk m os (by simpa using hd)).2
        have hMG : MG (sortWorld encN w1 g 0 m dk os) B b U F := hg1.far hgr (fun e => by injection e; omega) (fun n p hp q hq e => by have := hF n p hp q hq; injection e; omega)
        have hbk : ∀ (k : Nat) (v : Value), k ≠ g → w1.cell? ⟨k, 0, none⟩ = some v → (sortWorld encN w1 g 0 m dk os).cell? ⟨k, 0, none⟩ = some v := fun k v hk hc => by
          have hlt := World.block_lt_of_cell? w1 ⟨k, 0, none⟩ hc
          have := hgr.block k hlt (fun e => hk (by injection e))
          simp only [World.cell?] at hc ⊢
          rw [this]; exact hc
        have hne : w.heap.size ≠ g := fun e => by
          have := own_cells2 ho1 g rfl
          obtain ⟨_, _, cur, hc⟩ := this
          have h2 : w1.heap[w.heap.size]? = some (.cells #[.func (.func 39) #[] #[.pointer (some ⟨X, 0, none⟩)]] 98 (0, 0)) := by rw [← hw1]; exact (Bk.new _ _ _).hp
          rw [e, hc] at h2
          injection h2 with h2
          injection h2 with _ h3 _
          exact absurd h3 (by decide)
        refine (cmp19_any hMG (hbk X _ (by omega) hX1) (hbk _ _ hne hY) x.1 y.1 x.2 y.2 (hU.nz x.2) (hU.nz y.2) hU.ok).mono ?_
        rintro e w' ⟨rfl, q, os', rfl⟩
        exact ⟨rfl, q, os', rfl⟩) hH hgl (by simpa using hl)
      refine hcon.mono ?_
      rintro e w' ⟨rfl, d', n, os, hp, hs, rfl⟩
      have hz : d'.size = l.length := by simpa using hp.1
      obtain ⟨b1, b2⟩ := hback d' n os hz
      refine ⟨rfl, d'.toList, ?_, ?_, b1, b2.1.trans hg0.1, b2.2.trans hg0.2, b2.3.trans hg0.3, Nat.le_trans hg0.4 b2.4, fun k hk hne => (b2.block k (by omega) hne).trans (hg0.block k hk (by simp))⟩
      · obtain ⟨h1, _, h2⟩ := hp
        have e1 : d'.extract 0 l.toArray.size = d' := by rw [← h1]; simp
        have e2 : l.toArray.extract 0 l.toArray.size = l.toArray := by simp
        rw [e1, e2] at h2
        simpa using h2
      · rw [List.pairwise_iff_getElem]
        intro i j hi hj hij
        have hi' : i < d'.size := by simpa using hi
        have hj' : j < d'.size := by simpa using hj
        have h := hs i j (Nat.zero_le _) hij (by simpa [← hz] using hj')
        rw [getElem!_pos d' i hi', getElem!_pos d' j hj'] at h
        have hn : ¬ keyN U d'[j].1 < keyN U d'[i].1 := fun e => by rw [(lt_cfN _ _).2 e] at h; cases h
        rw [Array.getElem_toList, Array.getElem_toList]
        omega
  clear hg0 hY hg1 hX1 ho1 hsz1 h ho hX
  go_enter Try.func38, Try.ntmps38
  go_wp2_with (go_at_call 51; refine HS.out.mono ?_; rintro e w4 ⟨rfl, d, h1, h2, h3, h4⟩)
  go_end0
  exact ⟨rfl, d, h1, h2, h3, h4⟩
end Go.Proofs.Ytojiomkinhnodaa
