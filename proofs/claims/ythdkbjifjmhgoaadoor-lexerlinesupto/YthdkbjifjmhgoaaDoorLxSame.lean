/- The contract of the law's same. -/
import Derived.Test.YthdkbjifjmhgoaaDoorCleanWalk
namespace Go.Proofs.YthdkbjifjmhgoaaDoor
open Go.ChangeShapes Go.WideShapes Go.ChangeAt Go.RowKit
set_option linter.unusedVariables false
set_option linter.unusedSimpArgs false

/-- Two lists of tokens, alike, with or without their lines. -/
def Alike (l m : List TL) (b : Bool) : Prop := l.map Prod.fst = m.map Prod.fst ∧ (b = true → l = m)
theorem Alike.len {l m : List TL} {b : Bool} (h : Alike l m b) : l.length = m.length := by
  have := congrArg List.length h.1
  simpa using this
theorem Alike.at' {l m : List TL} {b : Bool} (h : Alike l m b) (i : Nat) : (l.getD i TL.none).1 = (m.getD i TL.none).1 ∧ (b = true → (l.getD i TL.none).2 = (m.getD i TL.none).2) := by
  refine ⟨?_, fun hb => by rw [h.2 hb]⟩
  have h1 := congrArg (fun x => x[i]?) h.1
  simp only [List.getElem?_map] at h1
  rw [List.getD_eq_getElem?_getD, List.getD_eq_getElem?_getD]
  cases ha : l[i]? <;> cases hb : m[i]? <;> rw [ha, hb] at h1 <;> simp at h1 ⊢
  exact h1

set_option maxHeartbeats 8000000 in
set_option maxRecDepth 10000 in
theorem same_any (ao bo : Option Addr) (c d : Nat) (l m : List TL) (lines : Bool) (w : World) (hl : l.length ≤ 9223372036854775806) (h1 : ToksP w ao l) (h2 : Toks w bo m) (ha : Alike l m lines) :
    Calls Tryd.prog 11 #[.slice ao l.length c, .slice bo m.length d, .bool lines] w fun e w' => e = .returned (.bool true) ∧ Below w.heap.size w w' := by
  have H1 : Hid _ := ⟨h1⟩
  have H2 : Hid _ := ⟨h2⟩
  have HA : Hid _ := ⟨ha.at'⟩
  rw [← ha.len]
  have HL : Hid _ := ⟨ha.len⟩
  have hnn : ((l.length : Int) != (l.length : Int)) = false := by simp
  clear h1 h2 ha
  cases lines
  all_goals
    go_enter Tryd.func11, Tryd.ntmps11
    go_wp2
    go_loopw [7] (fun i wr => ∃ k : Nat, k ≤ l.length ∧ i = .int .i64 k ∧ Hid (Below w.heap.size w wr)) (fun i _ => l.length - (intOf i).toNat)
    case atStart => exact ⟨0, by omega, rfl, ⟨Below.refl _ _⟩⟩
    case round =>
      obtain ⟨k, hk, rfl, HB⟩ := hrel
      by_cases hlt : k < l.length
      · obtain ⟨b1, o1, rfl, hc1⟩ : ∃ b off, ao = some ⟨b, off, none⟩ ∧ ∀ i, i < l.length → TokAt wr b (off + i * 4) (l.getD i TL.none) := by
          rcases H1.out.below HB.out (Nat.le_refl _) with h | h
          · rw [h] at hlt; simp at hlt
          · exact h
        obtain ⟨b2, o2, rfl, hc2⟩ : ∃ b off, bo = some ⟨b, off, none⟩ ∧ ∀ i, i < m.length → TokAt wr b (off + i * 4) (m.getD i TL.none) := by
          rcases H2.out.below HB.out (Nat.le_refl _) with h | h
          · rw [HL.out, h] at hlt; simp at hlt
          · exact h
        obtain ⟨c0, c1, c2, c3⟩ := hc1 k hlt
        obtain ⟨d0, d1, d2, d3⟩ := hc2 k (by rw [← HL.out]; exact hlt)
        obtain ⟨he1, he2⟩ := HA.out k
        generalize l.getD k TL.none = p at *
        generalize m.getD k TL.none = q at *
        obtain ⟨⟨pk, pn, pt⟩, pl⟩ := p
        obtain ⟨⟨qk, qn, qt⟩, ql⟩ := q
        dsimp only at c0 c1 c2 c3 d0 d1 d2 d3 he1 he2
        simp only [Tok.mk.injEq] at he1
        obtain ⟨rfl, rfl, rfl⟩ := he1
        first
          | (have e := he2 (by first | rfl | trivial); subst e)
          | (clear he2)
        have t1 : (pk != pk) = false := by simp
        have t2 : (pn != pn) = false := by simp
        have t3 : ((St pt).toList != (St pt).toList) = false := by simp
        have t4 : (pl != pl) = false := by simp
        have i1 : (0 : Int) ≤ (k : Int) := by omega
        have i2 : (k : Int) < (l.length : Int) := by omega
        generalize St pt = sx at *
        clear hc1 hc2
        go_wp2
        go_quiet (fail)
        go_wp2
        go_roundw
        case rel => exact ⟨k + 1, hlt, by go_num, ⟨below_drewN HB.out _⟩⟩
        case measure => simp [intOf]; omega
      · obtain rfl : k = l.length := by omega
        go_wp2
        go_ret
        exact ⟨rfl, HB.out⟩
end Go.Proofs.YthdkbjifjmhgoaaDoor
