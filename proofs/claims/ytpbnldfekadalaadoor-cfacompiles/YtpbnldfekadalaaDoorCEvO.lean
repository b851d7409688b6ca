/- The program's op of an event. -/
import Derived.Test.YtpbnldfekadalaaDoorCEvP
import Derived.Deep.RegionHeld3
namespace Go.Proofs.YtpbnldfekadalaaDoor
open Go.ChangeShapes Go.WideShapes Go.ChangeAt Go.RowKit
set_option linter.unusedVariables false
set_option linter.unusedSimpArgs false

/-- A row of ints lies there. -/
def Ia (w : World) (ao : Option Addr) (l : List Int) : Prop := l.length = 0 ∨ ∃ b off, ao = some ⟨b, off, none⟩ ∧ ∀ i, i < l.length → w.cell? ⟨b, off + i, none⟩ = some (.int .i64 (l.getD i 0))
theorem up_belI {w w' : World} {a : Addr} {x : Value} (h : w.cell? a = some x) (hb : Below w.heap.size w w') : w'.cell? a = some x :=
  (World.cell?_of_block (hb.block a.block (World.block_lt_of_cell? w a h))).trans h
theorem Ia.bel {w w' : World} {ao : Option Addr} {l : List Int} (h : Ia w ao l) (hb : Below w.heap.size w w') : Ia w' ao l := by
  rcases h with h | ⟨b, off, e, h⟩
  · exact .inl h
  · exact .inr ⟨b, off, e, fun i hi => up_belI (h i hi) hb⟩
/-- What a call that finds an op answers. -/
def OE (o : Option Oq) (w : World) (e : Ending) (w' : World) : Prop := ∃ q : Oq, e = .returned (.tuple #[q.val, .bool o.isSome]) ∧ (∀ x, o = some x → q = x) ∧ Below w.heap.size w w'

theorem results_ctE {fn : Func} {t u : Tmp} {ty : TypeId} (h : fn.results = #[.cell t ty, .tmp u]) {tmps : Array Value} {w : World} {p : Addr} {v : Value} (hp : tmps.getD t undef = .pointer (some p)) (hl : (loadVar ty p).run Tryd.prog w = .ok v w) :
    (results fn tmps).run Tryd.prog w = .ok (.tuple #[v, tmps.getD u undef]) w := by
  have hp' : tmps[t]?.getD undef = .pointer (some p) := by simpa using hp
  simp [results, h, hp', hl, asAddr]
theorem results_c {fn : Func} {t : Tmp} {ty : TypeId} (h : fn.results = #[.cell t ty]) {tmps : Array Value} {w : World} {p : Addr} {v : Value} (hp : tmps.getD t undef = .pointer (some p)) (hl : (loadVar ty p).run Tryd.prog w = .ok v w) :
    (results fn tmps).run Tryd.prog w = .ok v w := by
  have hp' : tmps[t]?.getD undef = .pointer (some p) := by simpa using hp
  simp [results, h, hp', hl, asAddr]
/-- The op in the block that w's next one is. -/
theorem load_new (w : World) (k r n : Int) : (loadVar 64 ⟨w.heap.size, 0, none⟩).run Tryd.prog (w.alloc (.cells #[.int .i64 k, .int .i64 r, .int .i64 n] 64)) = .ok (.agg #[.int .i64 k, .int .i64 r, .int .i64 n]) (w.alloc (.cells #[.int .i64 k, .int .i64 r, .int .i64 n] 64)) :=
  load_op (o := ⟨k, r, n⟩) (Bk.new w _ _)
theorem load_newd (w : World) (k r n : Int) : (loadVar 64 ⟨w.heap.size, 0, none⟩).run Tryd.prog (w.alloc (.cells #[.int .i64 k, .int .i64 r, .int .i64 n] 64)).drew = .ok (.agg #[.int .i64 k, .int .i64 r, .int .i64 n]) (w.alloc (.cells #[.int .i64 k, .int .i64 r, .int .i64 n] 64)).drew :=
  load_op (o := ⟨k, r, n⟩) ((Bk.new w _ _).of rfl)
theorem bel_new (w : World) (cs : Array Value) (t : TypeId) : Below w.heap.size w (w.alloc (.cells cs t)) := (Below.refl _ _).alloc (Nat.le_refl _) _

set_option maxRecDepth 10000 in
theorem withBoth_any (k : Int) (ao : Option Addr) (c : Nat) (l : List Int) (w : World) (h : Ia w ao l) (hl : l.length ≤ 140737488355328) :
    Calls Tryd.prog 30 #[.int .i64 k, .slice ao l.length c] w (OE (two k l) w) := by
  by_cases h2 : l.length = 2
  · obtain ⟨x, y, rfl⟩ : ∃ x y, l = [x, y] := by
      match l, h2 with
      | [x, y], _ => exact ⟨x, y, rfl⟩
    obtain ⟨b, off, rfl, hc⟩ : ∃ b off, ao = some ⟨b, off, none⟩ ∧ ∀ i, i < 2 → w.cell? ⟨b, off + i, none⟩ = some (.int .i64 ([x, y].getD i 0)) := by
      rcases h with h | h
      · cases h
      · exact h
    have x0 := hc 0 (by omega)
    have x1 := hc 1 (by omega)
    show Calls Tryd.prog 30 #[.int .i64 k, .slice (some ⟨b, off, none⟩) 2 c] w (OE (some ⟨k, x, y⟩) w)
    replace x0 : w.cell? ⟨b, off, none⟩ = some (.int .i64 x) := x0
    replace x1 : w.cell? ⟨b, off + 1, none⟩ = some (.int .i64 y) := x1
    clear hc h h2 hl
    have HB : Below w.heap.size w (w.alloc (.cells #[.int .i64 0, .int .i64 0, .int .i64 0] 64)) := bel_new _ _ _
    have y0 := up_belI x0 HB
    have z0 := up_belI x0 HB.drew
    have y1 := up_belI x1 HB
    have z1 := up_belI x1 HB.drew
    go_enter Tryd.func30, Tryd.ntmps30
    go_wp2
    go_region
    go_wp2
    (try simp only [Exit.inBlock, Exit.then])
    refine bodyPost_ret (results_ctE rfl rfl (load_newd w _ _ _)) rfl ?_
    exact ⟨⟨k, x, y⟩, rfl, fun q hq => (by cases hq; rfl), (bel_new _ _ _).drew⟩
  · have n1 : ((l.length : Int) != 2) = true := by simp; omega
    have n2 : ((l.length : Int) == 2) = false := by simp; omega
    have e0 : two k l = none := by unfold two; rw [if_neg h2]
    rw [e0]
    clear h h2 e0
    generalize l.length = n at *
    go_enter Tryd.func30, Tryd.ntmps30
    go_wp2
    (try simp only [Exit.inBlock, Exit.then])
    refine bodyPost_ret (results_ctE rfl rfl (load_new w _ _ _)) rfl ?_
    exact ⟨⟨0, 0, 0⟩, rfl, fun q hq => (by cases hq), bel_new _ _ _⟩
set_option maxRecDepth 10000 in
theorem withN_any (k : Int) (ao : Option Addr) (c : Nat) (l : List Int) (w : World) (h : Ia w ao l) (hl : l.length ≤ 140737488355328) :
    Calls Tryd.prog 31 #[.int .i64 k, .slice ao l.length c] w (OE (one k l) w) := by
  by_cases h2 : l.length = 1
  · obtain ⟨x, rfl⟩ : ∃ x, l = [x] := by
      match l, h2 with
      | [x], _ => exact ⟨x, rfl⟩
    obtain ⟨b, off, rfl, hc⟩ : ∃ b off, ao = some ⟨b, off, none⟩ ∧ ∀ i, i < 1 → w.cell? ⟨b, off + i, none⟩ = some (.int .i64 ([x].getD i 0)) := by
      rcases h with h | h
      · cases h
      · exact h
    have x0 := hc 0 (by omega)
    show Calls Tryd.prog 31 #[.int .i64 k, .slice (some ⟨b, off, none⟩) 1 c] w (OE (some ⟨k, 0, x⟩) w)
    replace x0 : w.cell? ⟨b, off, none⟩ = some (.int .i64 x) := x0
    clear hc h h2 hl
    have HB : Below w.heap.size w (w.alloc (.cells #[.int .i64 0, .int .i64 0, .int .i64 0] 64)) := bel_new _ _ _
    have y0 := up_belI x0 HB
    have z0 := up_belI x0 HB.drew
    go_enter Tryd.func31, Tryd.ntmps31
    go_wp2
    (try simp only [Exit.inBlock, Exit.then])
    refine bodyPost_ret (results_ctE rfl rfl (load_new w _ _ _)) rfl ?_
    exact ⟨⟨k, 0, x⟩, rfl, fun q hq => (by cases hq; rfl), bel_new _ _ _⟩
  · have n1 : ((l.length : Int) != 1) = true := by simp; omega
    have n2 : ((l.length : Int) == 1) = false := by simp; omega
    have e0 : one k l = none := by unfold one; rw [if_neg h2]
    rw [e0]
    clear h h2 e0
    generalize l.length = n at *
    go_enter Tryd.func31, Tryd.ntmps31
    go_wp2
    (try simp only [Exit.inBlock, Exit.then])
    refine bodyPost_ret (results_ctE rfl rfl (load_new w _ _ _)) rfl ?_
    exact ⟨⟨0, 0, 0⟩, rfl, fun q hq => (by cases hq), bel_new _ _ _⟩
set_option maxRecDepth 10000 in
theorem withR_any (k : Int) (ao : Option Addr) (c : Nat) (l : List Int) (w : World) (h : Ia w ao l) (hl : l.length ≤ 140737488355328) :
    Calls Tryd.prog 32 #[.int .i64 k, .slice ao l.length c] w (OE (reg k l) w) := by
  by_cases h2 : l.length = 1
  · obtain ⟨x, rfl⟩ : ∃ x, l = [x] := by
      match l, h2 with
      | [x], _ => exact ⟨x, rfl⟩
    obtain ⟨b, off, rfl, hc⟩ : ∃ b off, ao = some ⟨b, off, none⟩ ∧ ∀ i, i < 1 → w.cell? ⟨b, off + i, none⟩ = some (.int .i64 ([x].getD i 0)) := by
      rcases h with h | h
      · cases h
      · exact h
    have x0 := hc 0 (by omega)
    show Calls Tryd.prog 32 #[.int .i64 k, .slice (some ⟨b, off, none⟩) 1 c] w (OE (some ⟨k, x, 0⟩) w)
    replace x0 : w.cell? ⟨b, off, none⟩ = some (.int .i64 x) := x0
    clear hc h h2 hl
    have HB : Below w.heap.size w (w.alloc (.cells #[.int .i64 0, .int .i64 0, .int .i64 0] 64)) := bel_new _ _ _
    have y0 := up_belI x0 HB
    have z0 := up_belI x0 HB.drew
    go_enter Tryd.func32, Tryd.ntmps32
    go_wp2
    (try simp only [Exit.inBlock, Exit.then])
    refine bodyPost_ret (results_ctE rfl rfl (load_new w _ _ _)) rfl ?_
    exact ⟨⟨k, x, 0⟩, rfl, fun q hq => (by cases hq; rfl), bel_new _ _ _⟩
  · have n1 : ((l.length : Int) != 1) = true := by simp; omega
    have n2 : ((l.length : Int) == 1) = false := by simp; omega
    have e0 : reg k l = none := by unfold reg; rw [if_neg h2]
    rw [e0]
    clear h h2 e0
    generalize l.length = n at *
    go_enter Tryd.func32, Tryd.ntmps32
    go_wp2
    (try simp only [Exit.inBlock, Exit.then])
    refine bodyPost_ret (results_ctE rfl rfl (load_new w _ _ _)) rfl ?_
    exact ⟨⟨0, 0, 0⟩, rfl, fun q hq => (by cases hq), bel_new _ _ _⟩
set_option maxRecDepth 10000 in
theorem farther_any (q : Oq) (n : Int) (w : World) : Calls Tryd.prog 33 #[q.val, .int .i64 n] w fun e w' => e = .returned (q.far n).val ∧ Below w.heap.size w w' := by
  obtain ⟨k, r, m⟩ := q
  unfold Oq.far
  dsimp only
  go_enter Tryd.func33, Tryd.ntmps33
  go_wp2
  (try simp only [Exit.inBlock, Exit.then])
  have L := load_new (w.alloc (.cells #[.int .i64 k, .int .i64 r, .int .i64 (wrap64 (m + n))] 64)) k r (wrap64 (m + n))
  rw [show (w.alloc (.cells #[.int .i64 k, .int .i64 r, .int .i64 (wrap64 (m + n))] 64)).heap.size = w.heap.size + 1 by simp] at L
  refine bodyPost_ret (results_c rfl rfl L) rfl ?_
  exact ⟨rfl, (bel_new _ _ _).alloc (bel_new _ _ _).size _⟩
end Go.Proofs.YtpbnldfekadalaaDoor
