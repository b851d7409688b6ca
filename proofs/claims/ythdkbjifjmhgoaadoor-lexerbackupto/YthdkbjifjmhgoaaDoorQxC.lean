/- The program's reader: a token more. -/
import Derived.Test.YthdkbjifjmhgoaaDoorQxT9
import Derived.Deep.RegionLaw
import Derived.Deep.AppendLies
namespace Go.Proofs.YthdkbjifjmhgoaaDoor
open Go.ChangeShapes Go.WideShapes Go.ChangeAt Go.RowKit
set_option linter.unusedVariables false
set_option linter.unusedSimpArgs false
section
variable {w w1 w2 : World} {rb : Nat} {s : ByteArray} {a : Nat} {ln : Int} {lv : Value}

/-- Nothing but the reader, and its list's blocks, has turned. -/
abbrev TL2 (rb base : Nat) (w w' : World) : Prop := Turn (fun k => k = rb ∨ base ≤ k) w w'

set_option maxHeartbeats 4000000 in
set_option maxRecDepth 10000 in
theorem add_any (h : RD w rb s a ln lv) (L : List TL) (base : Nat) (hO : OwnTP w base lv L) (hb1 : rb < base) (hb2 : base ≤ w.heap.size) (hlen : L.length + 1 ≤ 2199023255552) (k l0 n : Int) (t : List UInt8) :
    Calls Tryd.prog 35 #[.pointer (some ⟨rb, 0, none⟩), .agg #[.int .i64 k, .int .i64 l0, .int .i64 n, .string (St t)]] w fun e w' => e = .returned (.tuple #[]) ∧ ∃ lv', RD w' rb s a ln lv' ∧ OwnTP w' base lv' (L ++ [(⟨k, n, t⟩, ln)]) ∧ TL2 rb base w w' := by
  obtain ⟨ao, cp, hv, _⟩ := OwnTP.any hO
  subst hv
  have HR : Hid _ := ⟨h⟩
  have HO : Hid _ := ⟨hO⟩
  obtain ⟨i0, hi, hz0, hz1', hz2⟩ := info_parts infoTP
  have HI : Hid _ := ⟨And.intro hi (And.intro hz0 (And.intro hz1' hz2))⟩
  have c2 := h.c2
  have c3 := h.c3
  have hlt := h.lt
  have z9 := h.fz 259
  have HS : Hid (St t = St t) := ⟨rfl⟩
  obtain ⟨str, hstr⟩ : ∃ str, St t = str := ⟨_, rfl⟩
  rw [hstr]
  have HT : Hid _ := ⟨hstr⟩
  clear h hO hi hz0 hz1' hz2 hstr HS
  go_enter Tryd.func35, Tryd.ntmps35
  go_wp2
  have RW := HR.out.alloc (.cells #[.int .i64 k, .int .i64 ln, .int .i64 n, .string str] 32)
  have OW : OwnTP (w.alloc (.cells #[.int .i64 k, .int .i64 ln, .int .i64 n, .string str] 32)) base (.slice ao L.length cp) L := World.ownsRow.alloc HO.out _
  have TW : TL2 rb base w (w.alloc (.cells #[.int .i64 k, .int .i64 ln, .int .i64 n, .string str] 32)) := Turn.alloc (Turn.refl _ _) _
  have hszW : w.heap.size < (w.alloc (.cells #[.int .i64 k, .int .i64 ln, .int .i64 n, .string str] 32)).heap.size := by simp
  have e0 : (w.alloc (.cells #[.int .i64 k, .int .i64 ln, .int .i64 n, .string str] 32)).cell? ⟨w.heap.size, 0, none⟩ = some (.int .i64 k) := by simp
  have e1 : (w.alloc (.cells #[.int .i64 k, .int .i64 ln, .int .i64 n, .string str] 32)).cell? ⟨w.heap.size, 1, none⟩ = some (.int .i64 ln) := by simp
  have e2 : (w.alloc (.cells #[.int .i64 k, .int .i64 ln, .int .i64 n, .string str] 32)).cell? ⟨w.heap.size, 2, none⟩ = some (.int .i64 n) := by simp
  have e3 : (w.alloc (.cells #[.int .i64 k, .int .i64 ln, .int .i64 n, .string str] 32)).cell? ⟨w.heap.size, 3, none⟩ = some (.string str) := by simp
  generalize w.alloc (.cells #[.int .i64 k, .int .i64 ln, .int .i64 n, .string str] 32) = W at *
  have x3 := RW.c3
  have y9 := RW.fz 259
  have hltW := RW.lt
  have HRW : Hid _ := ⟨RW⟩
  have HOW : Hid _ := ⟨OW⟩
  have HTW : Hid _ := ⟨TW⟩
  have q1 : L.length + 1 ≤ maxLen := by unfold maxLen; omega
  have q2 : (L.length + 1) * 40 ≤ 140737488355328 := by omega
  have hbW : base ≤ W.heap.size := by omega
  have q3 : ∀ o : Obj, base ≤ (W.alloc o).drew.heap.size := fun o => by simp; omega
  have q4 : ∀ u ∈ [Value.int .i64 k, .int .i64 ln, .int .i64 n, .string str], u.oneCell' = true := by intro u hu; simp at hu; rcases hu with rfl | rfl | rfl | rfl <;> rfl
  clear c2 c3 RW OW TW
  go_region_law ((refine step_append_lies _ (by rfl) _ _ _ (by rfl) base 32 i0 (.agg zeroTP) 4 40 Tryd.underlying22 HI.out.1 HI.out.2.1 HI.out.2.2.1 HI.out.2.2.2 rfl (by decide) _ L.length (tlCells L) (by rfl) (World.ownsRow.alloc HOW.out _) ⟨W.heap.size, 0, none⟩ 1 1 [.int .i64 k, .int .i64 ln, .int .i64 n, .string str] (by rfl) rfl (World.news_of_block (heap_alloc_new W _)) q4 (by decide) q1 q2 (q3 _) (W.heap.size + 1) (by simp) ?_; intro g cap w1 hown1 hgrow hat hlt2; have R1 : RD w1 rb s a ln (.slice ao L.length cp) := (HRW.out.alloc _).drew.turn (S := fun k => base ≤ k) (Turn.grown (Turn.refl _ _) hgrow (fun k hk e => (HOW.out.lt k e).1)) (fun e => by omega) (fun k e => by have := HRW.out.hi; omega); have u3 := R1.c3; have v9 := R1.fz 259; have HR1 : Hid _ := ⟨R1⟩; clear R1))
  all_goals
    have hOl : OwnTP w1 base (.slice (some ⟨g, 0, none⟩) (L.length + 1) cap) (L ++ [(⟨k, n, t⟩, ln)]) := by
      unfold OwnTP
      rw [tlCells_append, List.length_append]
      have : tlCells [(⟨k, n, t⟩, ln)] = [Value.int .i64 k, .int .i64 ln, .int .i64 n, .string str] := by rw [← HT.out]; rfl
      rw [this]
      exact hown1
    have hT1 : TL2 rb base w w1 := Turn.grown ((HTW.out.alloc _).trans (Turn.of_below (Below.refl _ _).drew _)) hgrow (fun k hk e => .inr (HOW.out.lt k e).1)
    have HOl : Hid _ := ⟨hOl⟩
    have HT1 : Hid _ := ⟨hT1⟩
    clear hOl hT1 hown1 hgrow hat
    go_wp2
    go_end0
    exact ⟨rfl, _, HR1.out.setList _, Turn.row (TR.set (TR.self rb w1) 259 _) HOl.out (fun k hk e => by have := (HOl.out.lt k hk).1; omega), Turn.setCell (S := fun k => k = rb ∨ base ≤ k) HT1.out ⟨rb, 259, none⟩ (.inl rfl) _⟩
end
end Go.Proofs.YthdkbjifjmhgoaaDoor
