/- The document's reader of a frame's program: an op. -/
import Derived.Test.YtgldijohpfihaaaDoorCRdX
namespace Go.Proofs.YtgldijohpfihaaaDoor
open Go.ChangeShapes Go.WideShapes Go.ChangeAt Go.RowKit
set_option linter.unusedVariables false
set_option linter.unusedSimpArgs false

/-- The op that begins with a byte, read behind it. -/
def opR (len : Nat) (bs : Nat → Int) (c : Int) (t : Nat) : Option (Oq × Nat) :=
  if 192 ≤ c then some (⟨6, c - 192, 0⟩, t)
  else if 128 ≤ c then (match uN len bs t with | none => none | some (n, e) => match facM n with | none => none | some m => some (⟨5, c - 128, m⟩, e))
  else if 64 ≤ c then some (⟨1, 0, c - 64⟩, t)
  else if c = 0 then some (⟨0, 0, 0⟩, t)
  else if c = 2 then (match gN len bs t 1 with | none => none | some (n, e) => some (⟨1, 0, n⟩, e))
  else if c = 3 then (match gN len bs t 2 with | none => none | some (n, e) => some (⟨1, 0, n⟩, e))
  else if c = 4 then (match gN len bs t 4 with | none => none | some (n, e) => some (⟨1, 0, n⟩, e))
  else if c = 5 then (match uN len bs t with | none => none | some (r, e) => match uN len bs e with | none => none | some (n, e') => match facM n with | none => none | some m => some (⟨5, r, m⟩, e'))
  else if c = 6 then (match uN len bs t with | none => none | some (n, e) => some (⟨6, n, 0⟩, e))
  else if c = 7 then (match uN len bs t with | none => none | some (n, e) => some (⟨7, n, 0⟩, e))
  else if c = 8 then (match uN len bs t with | none => none | some (n, e) => some (⟨8, n, 0⟩, e))
  else if c = 10 then some (⟨9, 0, 0⟩, t)
  else if c = 11 then some (⟨10, 0, 0⟩, t)
  else if c = 12 then (match uN len bs t with | none => none | some (r, e) => match uN len bs e with | none => none | some (n, e') => some (⟨2, r, n⟩, e'))
  else if c = 13 then (match uN len bs t with | none => none | some (n, e) => some (⟨4, n, 0⟩, e))
  else if c = 14 then (match uN len bs t with | none => none | some (n, e) => some (⟨3, 0, n⟩, e))
  else if c = 17 then (match uN len bs t with | none => none | some (r, e) => match sR len bs e with | none => none | some (n, e') => match facM n with | none => none | some m => some (⟨5, r, m⟩, e'))
  else none
/-- What the reader is behind an op. -/
def RO (m : Option (Oq × Nat)) (w w' : World) (rb : Nat) (v : Value) (e : Ending) : Prop := match m with
  | none => ∃ (o : Oq) (t : Int), e = .returned (.agg #[.int .i64 o.k, .int .i64 o.r, .int .i64 o.n]) ∧ RD w' rb v t false ∧ Turn (fun k => k = rb) w w'
  | some (o, t) => e = .returned (.agg #[.int .i64 o.k, .int .i64 o.r, .int .i64 o.n]) ∧ RD w' rb v (t : Int) true ∧ Turn (fun k => k = rb) w w'
theorem res_op {fn : Func} {p : Tmp} (h : fn.results = #[.cell p 74]) (tmps : Array Value) (W : World) (g : Nat) (a b c : Value) (hp : tmps.getD p undef = .pointer (some ⟨g, 0, none⟩)) (c0 : W.cell? ⟨g, 0, none⟩ = some a) (c1 : W.cell? ⟨g, 1, none⟩ = some b) (c2 : W.cell? ⟨g, 2, none⟩ = some c) :
    (results fn tmps).run Tryd.prog W = .ok (.agg #[a, b, c]) W := by
  have hp' : tmps[p]?.getD undef = .pointer (some ⟨g, 0, none⟩) := by simpa using hp
  simp [results, h, hp', asAddr, loadVar, isAgg, run_underlying Tryd.underlying74, go_sem, c0, c1, c2]
/-- Where the reading of an op is: the reader, its bytes, the block of what is told. -/
structure RP (w0 W : World) (rb : Nat) (ao : Option Addr) (len cap : Nat) (bs : Nat → Int) (t : Int) (ok : Bool) (g : Nat) : Prop where
  rd : RD W rb (.slice ao len cap) t ok
  row : Row W ao len bs
  tu : Turn (fun k => k = rb) w0 W
  blk : ∃ a b c, W.heap[g]? = some (.cells #[a, b, c] 74)
  ne : g ≠ rb
  new : w0.heap.size ≤ g
  na : 0 < len → ∀ b off, ao = some ⟨b, off, none⟩ → b ≠ rb
theorem RP.go {w0 W W' : World} {rb : Nat} {ao : Option Addr} {len cap : Nat} {bs : Nat → Int} {t t' : Int} {ok ok' : Bool} {g : Nat} (h : RP w0 W rb ao len cap bs t ok g) (hr : RD W' rb (.slice ao len cap) t' ok') (ht : Turn (fun k => k = rb) W W') : RP w0 W' rb ao len cap bs t' ok' g := by
  obtain ⟨a, b, c, hb⟩ := h.blk
  refine ⟨hr, h.row.turn ht fun h0 b off e hk => h.na h0 b off e hk, h.tu.trans ht, ⟨a, b, c, ?_⟩, h.ne, h.new, h.na⟩
  rw [ht.block g (Array.getElem?_eq_some_iff.1 hb).1 h.ne]
  exact hb
theorem RP.there {w0 W : World} {rb : Nat} {ao : Option Addr} {len cap : Nat} {bs : Nat → Int} {t : Int} {ok : Bool} {g : Nat} (h : RP w0 W rb ao len cap bs t ok g) : (∃ a, W.cell? ⟨g, 0, none⟩ = some a) ∧ (∃ a, W.cell? ⟨g, 1, none⟩ = some a) ∧ (∃ a, W.cell? ⟨g, 2, none⟩ = some a) ∧ W.frozen? ⟨g, 0, none⟩ = false ∧ W.frozen? ⟨g, 1, none⟩ = false ∧ W.frozen? ⟨g, 2, none⟩ = false := by
  obtain ⟨a, b, c, hb⟩ := h.blk
  exact ⟨⟨a, by simp [World.cell?, hb]⟩, ⟨b, by simp [World.cell?, hb]⟩, ⟨c, by simp [World.cell?, hb]⟩, by simp [World.frozen?, hb], by simp [World.frozen?, hb], by simp [World.frozen?, hb]⟩
/-- What is told is laid down. -/
theorem RP.put {w0 W : World} {rb : Nat} {ao : Option Addr} {len cap : Nat} {bs : Nat → Int} {t : Int} {ok : Bool} {g : Nat} (h : RP w0 W rb ao len cap bs t ok g) (x y z : Value) :
    RD (((W.setCell ⟨g, 0, none⟩ x).setCell ⟨g, 1, none⟩ y).setCell ⟨g, 2, none⟩ z) rb (.slice ao len cap) t ok ∧ Turn (fun k => k = rb) w0 (((W.setCell ⟨g, 0, none⟩ x).setCell ⟨g, 1, none⟩ y).setCell ⟨g, 2, none⟩ z) ∧
      (((W.setCell ⟨g, 0, none⟩ x).setCell ⟨g, 1, none⟩ y).setCell ⟨g, 2, none⟩ z).cell? ⟨g, 0, none⟩ = some x ∧ (((W.setCell ⟨g, 0, none⟩ x).setCell ⟨g, 1, none⟩ y).setCell ⟨g, 2, none⟩ z).cell? ⟨g, 1, none⟩ = some y ∧ (((W.setCell ⟨g, 0, none⟩ x).setCell ⟨g, 1, none⟩ y).setCell ⟨g, 2, none⟩ z).cell? ⟨g, 2, none⟩ = some z := by
  obtain ⟨a, b, c, hb⟩ := h.blk
  have hh : (((W.setCell ⟨g, 0, none⟩ x).setCell ⟨g, 1, none⟩ y).setCell ⟨g, 2, none⟩ z).heap[g]? = some (.cells #[x, y, z] 74) := by
    simp [World.setCell, Array.getElem?_modify, hb]
  refine ⟨⟨?_⟩, ((h.tu.setCell ⟨g, 0, none⟩ (.inr h.new) x).setCell ⟨g, 1, none⟩ (.inr h.new) y).setCell ⟨g, 2, none⟩ (.inr h.new) z, by simp [World.cell?, hh], by simp [World.cell?, hh], by simp [World.cell?, hh]⟩
  rw [Below.heap_setCell _ _ _ _ (by simpa using h.ne.symm), Below.heap_setCell _ _ _ _ (by simpa using h.ne.symm), Below.heap_setCell _ _ _ _ (by simpa using h.ne.symm)]
  exact h.rd.blk
theorem rp_start {w : World} {rb : Nat} {ao : Option Addr} {len cap : Nat} {bs : Nat → Int} {t : Int} (hd : RD w rb (.slice ao len cap) t true) (hr : Row w ao len bs) (hna : 0 < len → ∀ b off, ao = some ⟨b, off, none⟩ → b ≠ rb) :
    RP w (w.alloc (.cells #[.int .i64 0, .int .i64 0, .int .i64 0] 74)) rb ao len cap bs t true w.heap.size :=
  ⟨hd.bel ((Below.refl _ _).alloc (Nat.le_refl _) _), hr.alloc _, (Turn.refl _ _).alloc _, ⟨_, _, _, heap_alloc_new w _⟩, by have := hd.lt; omega, Nat.le_refl _, hna⟩
end Go.Proofs.YtgldijohpfihaaaDoor
