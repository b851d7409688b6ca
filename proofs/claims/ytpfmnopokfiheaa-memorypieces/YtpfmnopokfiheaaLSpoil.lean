/- The contract of the law's spoil. -/
import Derived.Test.YtpfmnopokfiheaaDNum
import Derived.Deep.QuietTactic
import Derived.BigQuiet
namespace Go.Proofs.Ytpfmnopokfiheaa
open Go.ChangeShapes Go.WideShapes Go.ChangeAt Go.RowKit Go.Maps
set_option linter.unusedVariables false
set_option linter.unusedSimpArgs false

/-- Bytes that may be written over: so many of them, in block g. -/
def Soft (w : World) (g n : Nat) : Prop := ∃ cur, w.heap[g]? = some (.cells cur 5) ∧ ∀ i, i < n → ∃ z : Int, 0 ≤ z ∧ z < 256 ∧ cur[i]? = some (.int .u8 z)

theorem Soft.set {w : World} {g n i : Nat} (h : Soft w g n) {z : Int} (h0 : 0 ≤ z) (h1 : z < 256) : Soft (w.setCell ⟨g, i, none⟩ (.int .u8 z)) g n := by
  obtain ⟨cur, hc, hz⟩ := h
  refine ⟨cur.set! i (.int .u8 z), ?_, fun j hj => ?_⟩
  · simp [World.setCell, Array.getElem?_modify, hc]
  · by_cases e : j = i
    · subst e
      obtain ⟨y, _, _, hy⟩ := hz j hj
      have hlt : j < cur.size := (Array.getElem?_eq_some_iff.1 hy).1
      exact ⟨z, h0, h1, by simp [hlt]⟩
    · obtain ⟨y, a, b, hy⟩ := hz j hj
      exact ⟨y, a, b, by rw [← hy]; simp [Array.getElem?_setIfInBounds, Ne.symm e]⟩

theorem Own.soft {w : World} {base g n cap : Nat} {xs : List Int} (h : Own w base (.slice (some ⟨g, 0, none⟩) n cap) xs) (hb : ∀ x ∈ xs, 0 ≤ x ∧ x < 256) : Soft w g n := by
  rcases h.2 with ⟨hv, _⟩ | ⟨g', cap', cur, hv, _, hg, _, _, hs, ht⟩
  · cases hv
  · simp only [Value.slice.injEq, Option.some.injEq, Addr.mk.injEq] at hv
    obtain ⟨⟨rfl, _⟩, rfl, rfl⟩ := hv
    refine ⟨cur, hg, fun i hi => ⟨xs[i], hb _ (List.getElem_mem hi) |>.1, hb _ (List.getElem_mem hi) |>.2, ?_⟩⟩
    have : (cur.toList.take (xs.length * 1))[i]? = (xs.map (Value.int .u8))[i]? := by rw [ht]
    rw [List.getElem?_take, if_pos (by omega), Array.getElem?_toList] at this
    rw [this]
    simp [hi]

set_option maxRecDepth 10000 in
theorem spoil_any (ao : Option Addr) (n cap g : Nat) (w : World) (hl : n ≤ 140737488355328) (h : n = 0 ∨ (ao = some ⟨g, 0, none⟩ ∧ Soft w g n)) :
    Calls Try.prog 37 #[.slice ao n cap] w fun e w' => e = .returned (.tuple #[]) ∧ Turn (fun k => k = g ∧ 0 < n) w w' := by
  have HH : Hid _ := ⟨h⟩
  clear h
  go_enter Try.func37, Try.ntmps37
  go_wp2
  go_loopw [2] (fun i wr => ∃ k : Nat, k ≤ n ∧ i = .int .i64 k ∧ Hid ((n = 0 ∨ (ao = some ⟨g, 0, none⟩ ∧ Soft wr g n)) ∧ Turn (fun k => k = g ∧ 0 < n) w wr)) (fun i _ => n - (intOf i).toNat)
  case atStart => exact ⟨0, by omega, rfl, ⟨HH.out, Turn.refl _ _⟩⟩
  case round =>
    obtain ⟨k, hk, rfl, HW⟩ := hrel
    by_cases hlt : k < n
    · obtain ⟨rfl, hS⟩ : ao = some ⟨g, 0, none⟩ ∧ Soft wr g n := by
        rcases HW.out.1 with h | h
        · omega
        · exact h
      have HS : Hid _ := ⟨hS⟩
      obtain ⟨cur, hc, hz⟩ := hS
      obtain ⟨z, hz0, hz1, hzc⟩ := hz k hlt
      have hcx : wr.cell? ⟨g, k, none⟩ = some (.int .u8 z) := by simp [World.cell?, hc, hzc]
      have hfx : wr.frozen? ⟨g, k, none⟩ = false := by simp [World.frozen?, hc]
      clear hz hc hzc cur
      go_wp2
      go_roundw
      case rel => exact ⟨k + 1, hlt, by go_num, ⟨.inr ⟨by first | rfl | trivial, HS.out.set (by omega) (by omega)⟩, HW.out.2.setCell ⟨g, k, none⟩ (.inl ⟨rfl, by omega⟩) _⟩⟩
      case measure => simp [intOf]; omega
    · obtain rfl : k = n := by omega
      go_wp2
      go_end0
      exact ⟨rfl, HW.out.2⟩
end Go.Proofs.Ytpfmnopokfiheaa
