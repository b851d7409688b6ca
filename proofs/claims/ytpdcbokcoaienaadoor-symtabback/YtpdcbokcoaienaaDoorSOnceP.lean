/- What stands in a table of names, plainly. -/
import Derived.Test.YtpdcbokcoaienaaDoorSStr
import Derived.Test.YtpdcbokcoaienaaDoorSAt
namespace Go.Proofs.YtpdcbokcoaienaaDoor
open Go.ChangeShapes Go.WideShapes Go.ChangeAt Go.RowKit
set_option linter.unusedVariables false
set_option linter.unusedSimpArgs false

/-- A list's places. -/
def gd (b : List Int) (i : Nat) : Int := b.getD i 0

/-- The name t stands at place p. -/
def Spells (b : List Int) (p : Int) (t : ByteArray) : Prop := ∃ n : Nat, p = n ∧ TextAt b.length (gd b) n (n + t.size) ∧ txt (gd b) n (n + t.size) = t

theorem gd_left (b c : List Int) (i : Nat) (h : i < b.length) : gd (b ++ c) i = gd b i := by
  unfold gd
  rw [List.getD_eq_getElem?_getD, List.getElem?_append_left h, ← List.getD_eq_getElem?_getD]
theorem gd_right (b c : List Int) (i : Nat) : gd (b ++ c) (b.length + i) = gd c i := by
  unfold gd
  rw [List.getD_eq_getElem?_getD, List.getElem?_append_right (by omega), Nat.add_sub_cancel_left, ← List.getD_eq_getElem?_getD]

theorem lst_congr {f g : Nat → Int} {n : Nat} (h : ∀ i, i < n → f i = g i) : lst f n = lst g n := by
  unfold lst
  exact List.map_congr_left fun i hi => h i (List.mem_range.1 hi)

theorem Spells.more {b : List Int} {p : Int} {t : ByteArray} (h : Spells b p t) (c : List Int) : Spells (b ++ c) p t := by
  obtain ⟨n, rfl, ⟨h1, h2, h3, h4⟩, h5⟩ := h
  refine ⟨n, rfl, ⟨h1, by rw [List.length_append]; omega, by rw [gd_left _ _ _ h2]; exact h3, fun i hi hj => by rw [gd_left _ _ _ (by omega)]; exact h4 i hi hj⟩, ?_⟩
  refine Eq.trans ?_ h5
  unfold txt
  congr 1
  exact lst_congr fun i hi => gd_left _ _ _ (by omega)

theorem bts_gd (s : ByteArray) (i : Nat) (h : i < s.size) : gd (bts s) i = (s[i].toNat : Int) := by
  unfold gd bts
  have hl : i < s.data.toList.length := by simpa using h
  rw [List.getD_eq_getElem?_getD, List.getElem?_map, List.getElem?_eq_getElem hl]
  simp
  rfl

theorem bts_str (s : ByteArray) : strOfNums (bts s) = s := by
  apply ByteArray.ext
  apply Array.toList_inj.1
  rw [strOfNums_data]
  unfold bts
  rw [List.map_map]
  conv => rhs; rw [← List.map_id s.data.toList]
  apply List.map_congr_left
  intro c _
  simp

theorem lst_gd (b : List Int) : lst (gd b) b.length = b := by
  apply List.ext_getElem?
  intro i
  by_cases h : i < b.length
  · rw [lst_at? _ _ _ h, List.getElem?_eq_getElem h]
    unfold gd
    simp [h]
  · rw [List.getElem?_eq_none (by rw [lst_len]; omega), List.getElem?_eq_none (by omega)]

/-- A name that is put behind the others stands there. -/
theorem Spells.new (b : List Int) (s : ByteArray) (hz : zeroB s = false) : Spells (b ++ bts s ++ [0]) b.length s := by
  have e : b ++ bts s ++ [0] = b ++ (bts s ++ [0]) := by simp
  rw [e]
  have hg : ∀ i, i < s.size → gd (b ++ (bts s ++ [0])) (b.length + i) = (gd (bts s) i) := fun i hi => by
    rw [gd_right, gd_left _ _ _ (by rw [bts_len]; exact hi)]
  refine ⟨b.length, rfl, ⟨by omega, by simp [bts_len], ?_, fun i h1 h2 => ?_⟩, ?_⟩
  · rw [gd_right, show s.size = (bts s).length + 0 by simp [bts_len], gd_right]; rfl
  · obtain ⟨k, rfl⟩ : ∃ k, i = b.length + k := ⟨i - b.length, by omega⟩
    have hk : k < s.size := by omega
    rw [hg k hk, bts_gd s k hk]
    intro h0
    have : s.data.toList.any (· == 0) = true := by
      rw [List.any_eq_true]
      have hl : k < s.data.toList.length := by simpa using hk
      refine ⟨s.data.toList[k], List.getElem_mem hl, ?_⟩
      have e2 : s.data.toList[k] = s[k] := by rw [Array.getElem_toList]; rfl
      rw [e2, beq_iff_eq]
      apply UInt8.toNat_inj.1
      simpa using h0
    unfold zeroB at hz
    rw [this] at hz
    cases hz
  · unfold txt
    rw [Nat.add_sub_cancel_left, lst_congr (g := gd (bts s)) hg]
    have := lst_gd (bts s)
    rw [bts_len] at this
    rw [this, bts_str]

/-- Is the i-th name one that did not stand there before? -/
def fr (l : List ByteArray) (i : Nat) : Bool := !decide (l.getD i ByteArray.empty = ByteArray.empty) && !(l.take i).any fun t => decide (t = l.getD i ByteArray.empty)
theorem fr_iff (l : List ByteArray) (i : Nat) : fr l i = true ↔ (l.getD i ByteArray.empty ≠ ByteArray.empty ∧ l.getD i ByteArray.empty ∉ l.take i) := by
  unfold fr
  generalize l.getD i ByteArray.empty = s
  simp only [Bool.and_eq_true, Bool.not_eq_true', decide_eq_false_iff_not, List.any_eq_false, decide_eq_true_eq, ne_eq]
  constructor
  · rintro ⟨h1, h2⟩
    exact ⟨h1, fun h => h2 s h rfl⟩
  · rintro ⟨h1, h2⟩
    exact ⟨h1, fun t ht e => h2 (e ▸ ht)⟩
/-- How long the table of the first i names is. -/
def szN (l : List ByteArray) : Nat → Nat
  | 0 => 1
  | i + 1 => szN l i + if fr l i then (l.getD i ByteArray.empty).size + 1 else 0

theorem szN_pos (l : List ByteArray) : ∀ k, 1 ≤ szN l k
  | 0 => Nat.le_refl _
  | k + 1 => by have := szN_pos l k; unfold szN; omega

/-- A table of the first k names. -/
structure G (l : List ByteArray) (k : Nat) (T : TB) (A : List Int) : Prop where
  byte : ∀ x ∈ T.b, 0 ≤ x ∧ x < 256
  spell : ∀ t p, T.m t = some p → Spells T.b p t
  dom : ∀ t, T.m t = none ↔ (t ≠ ByteArray.empty ∧ t ∉ l.take k)
  len : A.length = k
  at' : ∀ i, i < k → T.m (l.getD i ByteArray.empty) = some (A.getD i 0)
  sum : T.b.length = szN l k

theorem G.start (l : List ByteArray) : G l 0 T0 [] := by
  refine ⟨by simp [T0], fun t p h => ?_, fun t => ?_, rfl, fun i hi => by omega, rfl⟩
  · unfold T0 mput at h
    simp only at h
    split at h
    · rename_i e
      subst e
      cases h
      exact ⟨0, rfl, ⟨by decide, by decide, rfl, fun i h1 h2 => by have : (ByteArray.empty).size = 0 := rfl; omega⟩, rfl⟩
    · cases h
  · unfold T0 mput
    simp only
    split <;> simp_all

theorem getD_snoc_left (A : List Int) (p : Int) (i : Nat) (h : i < A.length) : (A ++ [p]).getD i 0 = A.getD i 0 := gd_left A [p] i h
theorem getD_snoc (A : List Int) (p : Int) : (A ++ [p]).getD A.length 0 = p := by
  have := gd_right A [p] 0
  rw [Nat.add_zero] at this
  exact this

theorem take_more (l : List ByteArray) (k : Nat) (h : k < l.length) (t : ByteArray) : t ∈ l.take (k + 1) ↔ t ∈ l.take k ∨ t = l.getD k ByteArray.empty := by
  have hg : l.getD k ByteArray.empty = l[k] := by simp [h]
  rw [List.take_succ_eq_append_getElem h, List.mem_append, hg]
  simp

theorem G.step {l : List ByteArray} {k : Nat} {T : TB} {A : List Int} (g : G l k T A) (hk : k < l.length) (hz : zeroB (l.getD k ByteArray.empty) = false) :
    G l (k + 1) (T.put (l.getD k ByteArray.empty)) (A ++ [T.at' (l.getD k ByteArray.empty)]) := by
  generalize hs : l.getD k ByteArray.empty = s at *
  have hsum : szN l (k + 1) = szN l k + if fr l k then s.size + 1 else 0 := by rw [← hs]; rfl
  cases hm : T.m s with
  | some p =>
    have e1 : T.at' s = p := by unfold TB.at'; rw [hm]; rfl
    have e2 : T.put s = T := by unfold TB.put; rw [hm]; rfl
    have hnf : fr l k = false := by
      rw [← Bool.not_eq_true, fr_iff, hs]
      intro h
      have := (g.dom s).2 h
      rw [hm] at this; cases this
    rw [e1, e2]
    refine ⟨g.byte, g.spell, fun t => ?_, by simp [g.len], fun i hi => ?_, by rw [hsum, hnf, g.sum]; simp⟩
    · rw [take_more l k hk, hs, g.dom t]
      constructor
      · rintro ⟨h1, h2⟩
        refine ⟨h1, fun h => ?_⟩
        rcases h with h | h
        · exact h2 h
        · subst h
          have := (g.dom t).2 ⟨h1, h2⟩
          rw [hm] at this; cases this
      · rintro ⟨h1, h2⟩
        exact ⟨h1, fun h => h2 (.inl h)⟩
    · by_cases e : i < k
      · rw [getD_snoc_left _ _ _ (by rw [g.len]; exact e)]; exact g.at' i e
      · obtain rfl : i = k := by omega
        rw [hs, hm]
        have := getD_snoc A p
        rw [g.len] at this
        rw [this]
  | none =>
    have e1 : T.at' s = T.b.length := by unfold TB.at'; rw [hm]; rfl
    have e2 : T.put s = ⟨T.b ++ bts s ++ [0], mput T.m s T.b.length⟩ := by unfold TB.put; rw [hm]; rfl
    have hf : fr l k = true := by
      rw [fr_iff, hs]
      exact (g.dom s).1 hm
    rw [e1, e2]
    refine ⟨fun x hx => ?_, fun t p h => ?_, fun t => ?_, by simp [g.len], fun i hi => ?_, ?_⟩
    · simp only [List.mem_append, List.mem_singleton] at hx
      rcases hx with (hx | hx) | hx
      · exact g.byte x hx
      · unfold bts at hx
        obtain ⟨c, _, rfl⟩ := List.mem_map.1 hx
        have := c.toNat_lt
        omega
      · subst hx; omega
    · unfold mput at h
      simp only at h
      split at h
      · rename_i e
        subst e
        cases h
        exact Spells.new T.b t hz
      · have := (g.spell t p h).more (bts s ++ [0])
        simpa using this
    · show mput T.m s T.b.length t = none ↔ _
      unfold mput
      rw [take_more l k hk, hs]
      by_cases e : t = s
      · subst e
        simp
      · rw [if_neg e, g.dom t]
        simp [e]
    · show mput T.m s T.b.length _ = _
      unfold mput
      by_cases e : i < k
      · have h1 := g.at' i e
        have hne : l.getD i ByteArray.empty ≠ s := by
          intro h; rw [h, hm] at h1; cases h1
        rw [if_neg hne, getD_snoc_left _ _ _ (by rw [g.len]; exact e)]
        exact h1
      · obtain rfl : i = k := by omega
        rw [hs, if_pos rfl]
        have := getD_snoc A (T.b.length : Int)
        rw [g.len] at this
        rw [this]
    · rw [hsum, hf, ← g.sum]
      simp [bts_len, Nat.add_assoc]

theorem strF_facts (l : List ByteArray) (hz : l.any zeroB = false) : ∀ (n k : Nat) (T : TB) (A : List Int) (T' : TB) (A' : List Int), n = l.length - k → k ≤ l.length → G l k T A → strF (l.drop k) T A = some (T', A') → G l l.length T' A'
  | 0, k, T, A, T', A', hn, hk, g, h => by
    obtain rfl : k = l.length := by omega
    rw [List.drop_of_length_le (Nat.le_refl _)] at h
    cases h
    exact g
  | n + 1, k, T, A, T', A', hn, hk, g, h => by
    have hlt : k < l.length := by omega
    have hg : l.getD k ByteArray.empty = l[k] := by simp [hlt]
    rw [List.drop_eq_getElem_cons hlt] at h
    unfold strF at h
    split at h
    · cases h
    · rw [← hg] at h
      exact strF_facts l hz n (k + 1) _ _ T' A' (by omega) hlt (g.step hlt (by rw [hg]; simpa using List.any_eq_false.1 hz l[k] (List.getElem_mem hlt))) h

theorem strF_len : ∀ (r : List ByteArray) (T : TB) (A : List Int) (T' : TB) (A' : List Int), T.b.length ≤ 1048576 → strF r T A = some (T', A') → T'.b.length ≤ 1048576
  | [], T, A, T', A', hl, h => by cases h; exact hl
  | s :: r, T, A, T', A', hl, h => by
    unfold strF at h
    split at h
    · cases h
    · exact strF_len r _ _ T' A' (by omega) h

theorem szN_le (l : List ByteArray) (j : Nat) : ∀ n, szN l j ≤ szN l (j + n)
  | 0 => Nat.le_refl _
  | n + 1 => by
    have := szN_le l j n
    rw [← Nat.add_assoc]
    show szN l j ≤ szN l (j + n) + _
    omega

/-- What Strings answers where it takes the names. -/
theorem strM_ok {l : List ByteArray} {b A : List Int} (h : strM l = .ok (b, A)) : l.any zeroB = false ∧ (∀ s ∈ l, s.size ≤ 255) ∧ ∃ T, T.b = b ∧ G l l.length T A ∧ T.b.length ≤ 1048576 := by
  unfold strM at h
  cases hz : l.any zeroB
  · cases hg : l.any longB
    · rw [hz, hg] at h
      simp only [Bool.false_eq_true, if_false] at h
      cases hf : strF l T0 [] with
      | none => rw [hf] at h; cases h
      | some p =>
        rw [hf] at h
        cases h
        refine ⟨rfl, fun s hs => ?_, p.1, rfl, strF_facts l hz l.length 0 T0 [] p.1 p.2 (by omega) (by omega) (G.start l) (by simpa using hf), strF_len l T0 [] p.1 p.2 (by simp [T0]) hf⟩
        have := List.any_eq_false.1 hg s hs
        simpa [longB] using this
    · rw [hz, hg] at h; cases h
  · rw [hz] at h; cases h
end Go.Proofs.YtpdcbokcoaienaaDoor
