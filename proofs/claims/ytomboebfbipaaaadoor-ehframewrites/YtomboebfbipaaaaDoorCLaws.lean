/- What the program's Write of ops answers; bytes. -/
import Derived.Test.YtomboebfbipaaaaDoorCRWrite
import Derived.Test.YtomboebfbipaaaaDoorLebA
import Derived.Test.YtomboebfbipaaaaDoorCIs
namespace Go.Proofs.YtomboebfbipaaaaDoor
open Go.ChangeShapes Go.WideShapes Go.ChangeAt Go.RowKit
set_option linter.unusedVariables false
set_option linter.unusedSimpArgs false

/-- What the program's Write, Read and the law's knows answer. -/
def PWrite : Prop := ∀ (ao : Option Addr) (c : Nat) (l : List Oq) (w : World), l.length ≤ 5864062014634 → IsOq w ao c l → Fz w →
  Calls Tryd.prog 79 #[.slice ao l.length c] w fun e w' => ∃ v, e = .returned (.tuple #[v, .int .i64 (writE l)]) ∧ Own w' w.heap.size v (writB l) ∧ Below w.heap.size w w'
theorem lst_gd (xs : List Int) : lst (fun i => xs.getD i 0) xs.length = xs := by
  apply List.ext_getElem
  · rw [lst_len]
  · intro i h1 h2
    simp [lst, h2]
theorem Bt.conv {w : World} {v : Value} {xs : List Int} (h : Bt w v xs) : Sem.run Tryd.prog (convert 24 9 v) w = .ok (.string (strOfNums xs)) w := by
  obtain ⟨ao, cap, rfl, hr, hn⟩ := h
  have := conv_row w ao xs.length cap _ hr (fun e => (hn e).1)
  rwa [lst_gd] at this
/-- Bytes of the call's own, as they may be handed on. -/
theorem Own.isr {w : World} {base : Nat} {v : Value} {xs : List Int} (h : Own w base v xs) (hb : ∀ x ∈ xs, 0 ≤ x ∧ x < 256) : ∃ ao cap, v = .slice ao xs.length cap ∧ IsRow w ao xs.length cap (fun i => xs.getD i 0) := by
  by_cases h0 : 1 ≤ xs.length
  · obtain ⟨g, cap, hv, hc1, hc2, hr⟩ := h.row h0
    exact ⟨_, cap, hv, ⟨hr w (Below.refl _ _), fun i => getD_byte hb i, hc1, hc2, fun e => by cases e⟩⟩
  · have h0' : xs.length = 0 := by omega
    rcases h.2 with ⟨rfl, _⟩ | ⟨g, cap, cur, rfl, _, _, h3, h4, _⟩
    · exact ⟨none, 0, by rw [h0'], ⟨.inl h0', fun i => getD_byte hb i, by omega, by omega, fun _ => ⟨h0', rfl⟩⟩⟩
    · exact ⟨_, cap, rfl, ⟨.inl h0', fun i => getD_byte hb i, h3, by unfold maxLen at h4; omega, fun e => by cases e⟩⟩
theorem IsRow.bel {w w' : World} {ao : Option Addr} {len cap : Nat} {bs : Nat → Int} (h : IsRow w ao len cap bs) (hb : Below w.heap.size w w') : IsRow w' ao len cap bs := ⟨h.row.below hb (Nat.le_refl _), h.byte, h.fit, h.top, h.nil⟩

theorem sl_bytes (n : Int) : ∀ x ∈ sl n, 0 ≤ x ∧ x < 256 := sl_byte n.natAbs n (Nat.le_refl _)
theorem pl_bytes (n : Int) (s : Nat) : ∀ x ∈ pl n s, 0 ≤ x ∧ x < 256 := by
  intro x hx
  unfold pl at hx
  obtain ⟨j, _, rfl⟩ := List.mem_map.1 hx
  omega
theorem oneB_byte {o : Oq} (hm : mayB o = true) : ∀ x ∈ oneB o, 0 ≤ x ∧ x < 256 := by
  have hu : ∀ n : Int, ∀ x ∈ ulB n, 0 ≤ x ∧ x < 256 := fun n => ul_byte _
  have hs := sl_bytes (-(o.n.tdiv 8))
  have hp := pl_bytes o.n
  have ha : o.k = 1 → 0 ≤ o.n ∧ o.n < 2147483648 := fun h => may_adv hm h
  have hr : o.k = 5 ∨ o.k = 6 → 0 ≤ o.r ∧ o.r ≤ 16 := fun h => may_reg hm (by omega)
  intro x hx
  unfold oneB at hx
  split at hx
  · rename_i h1
    have := ha h1
    unfold advB at hx
    repeat' (split at hx)
    · simp at hx; omega
    all_goals
      rcases List.mem_cons.1 hx with rfl | hx
      · omega
      · exact hp _ x hx
  · repeat' (split at hx)
    all_goals first
      | (simp at hx; omega)
      | (rcases List.mem_cons.1 hx with rfl | hx
         · omega
         · first
           | exact hu _ x hx
           | (rcases List.mem_append.1 hx with hx | hx
              · exact hu _ x hx
              · first | exact hu _ x hx | exact hs x hx))
      | (simp at hx; have := hr (by omega); omega)
theorem writB_byte (l : List Oq) : ∀ x ∈ writB l, 0 ≤ x ∧ x < 256 := by
  unfold writB
  split
  · intro x hx; cases hx
  · split
    · rename_i ha
      intro x hx
      obtain ⟨o, ho, hx⟩ := List.mem_flatMap.1 hx
      exact oneB_byte (List.all_eq_true.1 ha o ho) x hx
    · intro x hx; cases hx
theorem writB_len (l : List Oq) : (writB l).length ≤ 88000 := by
  unfold writB
  split
  · simp
  · split
    · rename_i h1 ha
      have := flat_len l ha
      omega
    · simp
theorem writB_no {l : List Oq} (h : writE l ≠ 0) : writB l = [] := by
  unfold writE at h
  unfold writB
  split
  · rfl
  · rename_i h1
    rw [if_neg h1] at h
    split
    · rename_i ha
      rw [if_pos ha] at h
      exact absurd rfl h
    · rfl

theorem Row.congr {w : World} {ao : Option Addr} {len : Nat} {bs bs' : Nat → Int} (h : Row w ao len bs) (e : ∀ i, i < len → bs i = bs' i) : Row w ao len bs' := by
  rcases h with h | ⟨b, off, e', h⟩
  · exact .inl h
  · exact .inr ⟨b, off, e', fun i hi => by rw [← e i hi]; exact h i hi⟩
end Go.Proofs.YtomboebfbipaaaaDoor
