/- The document's reader of a frame's program: numbers. The document's reader of a frame's program: numbers with a sign, of so many bytes, of eights. -/
import Derived.Test.YtgldijohpfihaaaDoorCRWrite
namespace Go.Proofs.YtgldijohpfihaaaDoor
open Go.ChangeShapes Go.WideShapes Go.ChangeAt Go.RowKit
set_option linter.unusedVariables false
set_option linter.unusedSimpArgs false

/-- What has turned: the blocks of S, and none that was there beside them. -/
structure Turn (S : Nat → Prop) (w w' : World) : Prop where
  os : w'.os = w.os
  tape : w'.tape = w.tape
  output : w'.output = w.output
  size : w.heap.size ≤ w'.heap.size
  block : ∀ k, k < w.heap.size → ¬ S k → w'.heap[k]? = w.heap[k]?

theorem Turn.refl (S : Nat → Prop) (w : World) : Turn S w w := ⟨rfl, rfl, rfl, Nat.le_refl _, fun _ _ _ => rfl⟩
theorem Turn.trans {S : Nat → Prop} {a b c : World} (h : Turn S a b) (k : Turn S b c) : Turn S a c :=
  ⟨k.os.trans h.os, k.tape.trans h.tape, k.output.trans h.output, Nat.le_trans h.size k.size, fun i hi hs => (k.block i (Nat.lt_of_lt_of_le hi h.size) hs).trans (h.block i hi hs)⟩
/-- What turns anew may be of the call's own, too. -/
theorem Turn.trans' {S S' : Nat → Prop} {a b c : World} (h : Turn S a b) (k : Turn S' b c) (hs : ∀ i, i < a.heap.size → S' i → S i) : Turn S a c :=
  ⟨k.os.trans h.os, k.tape.trans h.tape, k.output.trans h.output, Nat.le_trans h.size k.size, fun i hi hn => (k.block i (Nat.lt_of_lt_of_le hi h.size) (fun e => hn (hs i hi e))).trans (h.block i hi hn)⟩
theorem Turn.mono {S S' : Nat → Prop} {w w' : World} (h : Turn S w w') (hs : ∀ k, k < w.heap.size → S k → S' k) : Turn S' w w' :=
  ⟨h.os, h.tape, h.output, h.size, fun k hk hn => h.block k hk (fun e => hn (hs k hk e))⟩
theorem Turn.grown {S : Nat → Prop} {a w w' : World} {row : Option Nat} (h : Turn S a w) (hg : w.grownBy w' row) (hr : ∀ k, k < a.heap.size → row = some k → S k) : Turn S a w' :=
  ⟨hg.os.trans h.os, hg.tape.trans h.tape, hg.output.trans h.output, Nat.le_trans h.size hg.size, fun k hk hn => (hg.block k (Nat.lt_of_lt_of_le hk h.size) (fun e => hn (hr k hk e.symm))).trans (h.block k hk hn)⟩
theorem Turn.alloc {S : Nat → Prop} {a w : World} (h : Turn S a w) (o : Obj) : Turn S a (w.alloc o) :=
  h.grown (World.grownBy_alloc w o none) (fun _ _ e => by cases e)
theorem Turn.setCell {S : Nat → Prop} {a w : World} (h : Turn S a w) (p : Addr) (hp : S p.block ∨ a.heap.size ≤ p.block) (u : Value) : Turn S a (w.setCell p u) :=
  ⟨h.os, h.tape, h.output, by have := h.size; simpa [World.setCell] using this, fun k hk hn => by
    have hne : k ≠ p.block := fun e => hp.elim (fun hp => hn (by rw [e]; exact hp)) (fun hp => by omega)
    rw [Below.heap_setCell _ _ _ _ hne]; exact h.block k hk hn⟩
theorem Turn.below {S : Nat → Prop} {w w' : World} (h : Turn S w w') {B : Nat} (hB : B ≤ w.heap.size) (hs : ∀ k, S k → B ≤ k) : Below B w w' :=
  ⟨h.os, h.tape, h.output, h.size, fun k hk => h.block k (by omega) (fun e => by have := hs k e; omega)⟩
theorem Turn.of_below {w w' : World} (h : Below w.heap.size w w') (S : Nat → Prop) : Turn S w w' :=
  ⟨h.os, h.tape, h.output, h.size, fun k hk _ => h.block k hk⟩
theorem Turn.row {S : Nat → Prop} {w w' : World} (h : Turn S w w') {base e s n : Nat} {v : Value} {xs : List Value} (hr : w.ownsRow base e s v n xs) (hs : ∀ k, v.ownBlock = some k → ¬ S k) : w'.ownsRow base e s v n xs := by
  refine ⟨hr.1, ?_⟩
  rcases hr.2 with hn | ⟨g, cap, cur, rfl, hb, hgg, rest⟩
  · exact .inl hn
  · refine .inr ⟨g, cap, cur, rfl, hb, ?_, rest⟩
    rw [h.block g (Array.getElem?_eq_some_iff.1 hgg).1 (hs g rfl)]
    exact hgg


/-- Where a number in groups ends: the first byte below 128 among ten. -/
def cN (len : Nat) (bs : Nat → Int) (t : Nat) : Option Nat := (List.range 10).find? (fun j => decide (t + j + 1 ≤ len) && decide (bs (t + j) < 128))
theorem cN_some {len : Nat} {bs : Nat → Int} {t j : Nat} (h : cN len bs t = some j) : Num len bs t (j + 1) := by
  unfold cN at h
  rw [List.find?_range_eq_some] at h
  obtain ⟨h1, h2, h3⟩ := h
  simp at h1 h2
  refine ⟨by omega, by omega, by omega, fun i hi => ?_, by simpa using h1.2⟩
  have := h3 i (by omega)
  simp at this
  omega
theorem cN_none {len : Nat} {bs : Nat → Int} {t : Nat} (h : cN len bs t = none) : Fin len bs t ∨ Long len bs t := by
  rcases sorts len bs (t : Int) with h1 | h1 | ⟨a, c, e, hn⟩
  · exact .inl h1
  · exact .inr h1
  · exfalso
    obtain rfl : t = a := by omega
    obtain ⟨n1, n2, n3, n4, n5⟩ := hn
    unfold cN at h
    rw [List.find?_eq_none] at h
    have := h (c - 1) (by simp; omega)
    simp at this
    have := this (by omega)
    omega
/-- A number without a sign, and with one. -/
def uR (len : Nat) (bs : Nat → Int) (t : Nat) : Option (Int × Nat) := match cN len bs t with
  | none => none
  | some j => if j = 9 ∧ 1 < bs (t + 9) then none else some (wrap64 (uacc bs t (j + 1)), t + (j + 1))
def sR (len : Nat) (bs : Nat → Int) (t : Nat) : Option (Int × Nat) := match cN len bs t with
  | none => none
  | some j => if j = 9 ∧ ¬ (bs (t + 9) = 0 ∨ bs (t + 9) = 127) then none else some (sval bs t (j + 1), t + (j + 1))
/-- What a reading of a number ends in. -/
def RE3 (m : Option (Int × Nat)) (e : Ending) : Prop := match m with
  | none => ∃ x : Int, e = .returned (.tuple #[.int .i64 0, .int .i64 0, .int .i64 x]) ∧ x ≠ 0
  | some (n, t) => e = .returned (.tuple #[.int .i64 n, .int .i64 (t : Int), .int .i64 0])
theorem num_row {w : World} {ao : Option Addr} {len t c : Nat} {bs : Nat → Int} (hr : Row w ao len bs) (h : Num len bs t c) : ∃ b off, ao = some ⟨b, off, none⟩ ∧ ∀ i, i < len → w.cell? ⟨b, off + i, none⟩ = some (.int .u8 (bs i)) := by
  rcases hr with hr | hr
  · have := h.1; have := h.2.2.1; omega
  · exact hr
theorem readU_rd (ao : Option Addr) (len cap t : Nat) (bs : Nat → Int) (w : World) (hr : Row w ao len bs) (hbs : ∀ i, 0 ≤ bs i ∧ bs i < 256) (hl : len ≤ 140737488355328) :
    Calls Tryd.prog 77 #[.slice ao len cap, .int .i64 (t : Int)] w fun e w' => RE3 (uR len bs t) e ∧ w' = w := by
  unfold uR
  cases hc : cN len bs t with
  | none =>
    rcases cN_none hc with h | h
    · refine (rreadU_fin ao len cap bs t w hr hl h).mono ?_
      rintro e w' ⟨rfl, rfl⟩
      exact ⟨⟨20, rfl, by decide⟩, rfl⟩
    · refine (rreadU_lng ao len cap bs t w hr hl h).mono ?_
      rintro e w' ⟨rfl, rfl⟩
      exact ⟨⟨21, rfl, by decide⟩, rfl⟩
  | some j =>
    have hn := cN_some hc
    dsimp only
    split
    · rename_i h9
      obtain ⟨rfl, h9⟩ := h9
      refine (rreadU_bad ao len cap t bs w hr hl hn (by omega)).mono ?_
      rintro e w' ⟨rfl, rfl⟩
      exact ⟨⟨21, rfl, by decide⟩, rfl⟩
    · rename_i h9
      obtain ⟨b, off, rfl, hcell⟩ := num_row hr hn
      refine (rreadU_num b off len cap t (j + 1) bs w hl hcell hbs hn (fun e => by
        obtain rfl : j = 9 := by omega
        apply Classical.byContradiction
        intro hx
        exact h9 ⟨rfl, by omega⟩)).mono ?_
      rintro e w' ⟨rfl, rfl⟩
      exact ⟨rfl, rfl⟩
theorem readS_rd (ao : Option Addr) (len cap t : Nat) (bs : Nat → Int) (w : World) (hr : Row w ao len bs) (hbs : ∀ i, 0 ≤ bs i ∧ bs i < 256) (hl : len ≤ 140737488355328) :
    Calls Tryd.prog 79 #[.slice ao len cap, .int .i64 (t : Int)] w fun e w' => RE3 (sR len bs t) e ∧ w' = w := by
  unfold sR
  cases hc : cN len bs t with
  | none =>
    rcases cN_none hc with h | h
    · refine (rreadS_fin ao len cap bs t w hr hl h).mono ?_
      rintro e w' ⟨rfl, rfl⟩
      exact ⟨⟨20, rfl, by decide⟩, rfl⟩
    · refine (rreadS_lng ao len cap bs t w hr hl h).mono ?_
      rintro e w' ⟨rfl, rfl⟩
      exact ⟨⟨21, rfl, by decide⟩, rfl⟩
  | some j =>
    have hn := cN_some hc
    dsimp only
    split
    · rename_i h9
      obtain ⟨rfl, h9⟩ := h9
      refine (rreadS_bad ao len cap t bs w hr hl hn (by omega)).mono ?_
      rintro e w' ⟨rfl, rfl⟩
      exact ⟨⟨21, rfl, by decide⟩, rfl⟩
    · rename_i h9
      obtain ⟨b, off, rfl, hcell⟩ := num_row hr hn
      refine (rreadS_num b off len cap t (j + 1) bs w hl hcell hbs hn (fun e => by
        obtain rfl : j = 9 := by omega
        apply Classical.byContradiction
        intro hx
        exact h9 ⟨rfl, by omega⟩)).mono ?_
      rintro e w' ⟨rfl, rfl⟩
      exact ⟨rfl, rfl⟩

/-- The document's reader lies in a block. -/
structure RD (w : World) (rb : Nat) (v : Value) (t : Int) (ok : Bool) : Prop where
  blk : w.heap[rb]? = some (.cells #[v, .int .i64 t, .bool ok] 104)
theorem RD.c0 {w : World} {rb : Nat} {v : Value} {t : Int} {ok : Bool} (h : RD w rb v t ok) : w.cell? ⟨rb, 0, none⟩ = some v := by simp [World.cell?, h.blk]
theorem RD.c1 {w : World} {rb : Nat} {v : Value} {t : Int} {ok : Bool} (h : RD w rb v t ok) : w.cell? ⟨rb, 1, none⟩ = some (.int .i64 t) := by simp [World.cell?, h.blk]
theorem RD.c2 {w : World} {rb : Nat} {v : Value} {t : Int} {ok : Bool} (h : RD w rb v t ok) : w.cell? ⟨rb, 2, none⟩ = some (.bool ok) := by simp [World.cell?, h.blk]
theorem RD.fz {w : World} {rb : Nat} {v : Value} {t : Int} {ok : Bool} (h : RD w rb v t ok) (i : Nat) : w.frozen? ⟨rb, i, none⟩ = false := by simp [World.frozen?, h.blk]
theorem RD.lt {w : World} {rb : Nat} {v : Value} {t : Int} {ok : Bool} (h : RD w rb v t ok) : rb < w.heap.size := (Array.getElem?_eq_some_iff.1 h.blk).1
theorem RD.set1 {w : World} {rb : Nat} {v : Value} {t : Int} {ok : Bool} (h : RD w rb v t ok) (x : Int) : RD (w.setCell ⟨rb, 1, none⟩ (.int .i64 x)) rb v x ok := ⟨by simp [World.setCell, Array.getElem?_modify, h.blk]⟩
theorem RD.set2 {w : World} {rb : Nat} {v : Value} {t : Int} {ok : Bool} (h : RD w rb v t ok) (x : Bool) : RD (w.setCell ⟨rb, 2, none⟩ (.bool x)) rb v t x := ⟨by simp [World.setCell, Array.getElem?_modify, h.blk]⟩
theorem RD.turn {w w' : World} {rb : Nat} {v : Value} {t : Int} {ok : Bool} (h : RD w rb v t ok) {S : Nat → Prop} (ht : Turn S w w') (hs : ¬ S rb) : RD w' rb v t ok := ⟨(ht.block rb h.lt hs).trans h.blk⟩
theorem RD.bel {w w' : World} {rb : Nat} {v : Value} {t : Int} {ok : Bool} (h : RD w rb v t ok) (ht : Below w.heap.size w w') : RD w' rb v t ok := ⟨(ht.block rb h.lt).trans h.blk⟩
theorem RD.drew {w : World} {rb : Nat} {v : Value} {t : Int} {ok : Bool} (h : RD w rb v t ok) (n : Nat) : RD (w.drewN n) rb v t ok := ⟨h.blk⟩
theorem Row.turn {w w' : World} {ao : Option Addr} {len : Nat} {bs : Nat → Int} (h : Row w ao len bs) {S : Nat → Prop} (ht : Turn S w w') (hs : 0 < len → ∀ b off, ao = some ⟨b, off, none⟩ → ¬ S b) : Row w' ao len bs := by
  rcases h with h | ⟨b, off, e, h⟩
  · exact .inl h
  · by_cases h0 : len = 0
    · exact .inl h0
    · refine .inr ⟨b, off, e, fun i hi => ?_⟩
      have hl := World.block_lt_of_cell? w ⟨b, off + i, none⟩ (h i hi)
      exact (World.cell?_of_block (ht.block b hl (hs (by omega) b off e))).trans (h i hi)
theorem turn_drewN {S : Nat → Prop} {a w : World} (h : Turn S a w) (n : Nat) : Turn S a (w.drewN n) := ⟨h.os, h.tape, h.output, h.size, h.block⟩

/-- A number that must not be below 0. -/
def uN (len : Nat) (bs : Nat → Int) (t : Nat) : Option (Int × Nat) := match uR len bs t with
  | none => none
  | some (n, e) => if 0 ≤ n then some (n, e) else none
/-- What the reader is behind a number. -/
def RE (m : Option (Int × Nat)) (w w' : World) (rb : Nat) (v : Value) (e : Ending) : Prop := match m with
  | none => ∃ (n : Int) (t : Int), e = .returned (.int .i64 n) ∧ RD w' rb v t false ∧ Turn (fun k => k = rb) w w'
  | some (n, t) => e = .returned (.int .i64 n) ∧ RD w' rb v (t : Int) true ∧ Turn (fun k => k = rb) w w'

set_option maxHeartbeats 2000000 in
set_option maxRecDepth 10000 in
theorem uleb_rd (rb : Nat) (ao : Option Addr) (len cap t : Nat) (bs : Nat → Int) (w : World) (h : RD w rb (.slice ao len cap) (t : Int) true) (hr : Row w ao len bs) (hbs : ∀ i, 0 ≤ bs i ∧ bs i < 256) (hl : len ≤ 140737488355328) :
    Calls Tryd.prog 58 #[.pointer (some ⟨rb, 0, none⟩)] w fun e w' => RE (uN len bs t) w w' rb (.slice ao len cap) e := by
  have HU : Hid (∀ W, Below w.heap.size w W → Calls Tryd.prog 77 #[.slice ao len cap, .int .i64 (t : Int)] W fun e w' => RE3 (uR len bs t) e ∧ w' = W) := ⟨fun W hb => readU_rd ao len cap t bs W (hr.below hb (Nat.le_refl _)) hbs hl⟩
  have HD : Hid _ := ⟨h⟩
  have c0 := h.c0
  have c1 := h.c1
  have c2 := h.c2
  have f1 := h.fz 1
  have f2 := h.fz 2
  clear h hr hbs hl
  unfold uN
  have d0 : w.drew.cell? ⟨rb, 0, none⟩ = _ := c0
  have d1 : w.drew.cell? ⟨rb, 1, none⟩ = _ := c1
  have HBd : Hid (Below w.heap.size w w.drew) := ⟨(Below.refl _ _).drew⟩
  cases hm : uR len bs t with
  | none =>
    rw [hm] at HU
    go_enter Tryd.func58, Tryd.ntmps58
    go_upto_region 1 with (fail)
    go_region_held3 (fun v => v.cell? ⟨rb, 0, none⟩ = some (.slice ao len cap) ∧ v.cell? ⟨rb, 1, none⟩ = some (.int .i64 (t : Int)))
      ((refine ⟨?_, ?_⟩) <;> (with_reducible assumption))
      ((go_at_call 77; (with_reducible refine (HU.out _ HBd.out).mono ?_); rintro e w1 ⟨⟨x, he, hx⟩, hw1⟩; subst he; subst w1; have hx' : (x == 0) = false := by simpa using hx))
    have k2 : w.drew.cell? ⟨rb, 2, none⟩ = some (.bool true) := c2
    have k3 : w.drew.frozen? ⟨rb, 2, none⟩ = false := f2
    have HR1 : Hid (RD (w.drew.setCell ⟨rb, 2, none⟩ (.bool false)) rb (.slice ao len cap) (t : Int) false) := ⟨RD.set2 (w := w.drew) ⟨HD.out.blk⟩ false⟩
    have m1 := HR1.out.c1
    have m2 := HR1.out.fz 1
    go_wp2
    go_ret
    exact ⟨_, _, rfl, ⟨((HD.out.set2 false).set1 _).blk⟩, turn_drewN (((Turn.refl (fun k => k = rb) w).setCell ⟨rb, 2, none⟩ (.inl rfl) _).setCell ⟨rb, 1, none⟩ (.inl rfl) _) 1⟩
  | some p =>
    obtain ⟨n, e9⟩ := p
    rw [hm] at HU
    by_cases hn : 0 ≤ n
    · dsimp only
      rw [if_pos hn]
      go_enter Tryd.func58, Tryd.ntmps58
      go_upto_region 1 with (fail)
      go_region_held3 (fun v => v.cell? ⟨rb, 0, none⟩ = some (.slice ao len cap) ∧ v.cell? ⟨rb, 1, none⟩ = some (.int .i64 (t : Int)))
        ((refine ⟨?_, ?_⟩) <;> (with_reducible assumption))
        ((go_at_call 77; (with_reducible refine (HU.out _ HBd.out).mono ?_); rintro e w1 ⟨he, hw1⟩; (have he' : e = .returned (.tuple #[.int .i64 n, .int .i64 (e9 : Int), .int .i64 0]) := he); subst he'; subst w1))
      have k2 : w.drew.cell? ⟨rb, 2, none⟩ = some (.bool true) := c2
      have k3 : w.drew.frozen? ⟨rb, 2, none⟩ = false := f2
      have HR1 : Hid (RD (w.drew.setCell ⟨rb, 2, none⟩ (.bool true)) rb (.slice ao len cap) (t : Int) true) := ⟨RD.set2 (w := w.drew) ⟨HD.out.blk⟩ true⟩
      have m1 := HR1.out.c1
      have m2 := HR1.out.fz 1
      go_wp2
      go_ret
      exact ⟨rfl, ⟨((HD.out.set2 true).set1 _).blk⟩, turn_drewN (((Turn.refl (fun k => k = rb) w).setCell ⟨rb, 2, none⟩ (.inl rfl) _).setCell ⟨rb, 1, none⟩ (.inl rfl) _) 1⟩
    · dsimp only
      rw [if_neg hn]
      have hd0 : decide (0 ≤ n) = false := by simpa using hn
      go_enter Tryd.func58, Tryd.ntmps58
      go_upto_region 1 with (fail)
      go_region_held3 (fun v => v.cell? ⟨rb, 0, none⟩ = some (.slice ao len cap) ∧ v.cell? ⟨rb, 1, none⟩ = some (.int .i64 (t : Int)))
        ((refine ⟨?_, ?_⟩) <;> (with_reducible assumption))
        ((go_at_call 77; (with_reducible refine (HU.out _ HBd.out).mono ?_); rintro e w1 ⟨he, hw1⟩; (have he' : e = .returned (.tuple #[.int .i64 n, .int .i64 (e9 : Int), .int .i64 0]) := he); subst he'; subst w1))
      have k2 : w.drew.cell? ⟨rb, 2, none⟩ = some (.bool true) := c2
      have k3 : w.drew.frozen? ⟨rb, 2, none⟩ = false := f2
      have HR1 : Hid (RD (w.drew.setCell ⟨rb, 2, none⟩ (.bool false)) rb (.slice ao len cap) (t : Int) false) := ⟨RD.set2 (w := w.drew) ⟨HD.out.blk⟩ false⟩
      have m1 := HR1.out.c1
      have m2 := HR1.out.fz 1
      go_wp2
      go_ret
      exact ⟨_, _, rfl, ⟨((HD.out.set2 false).set1 _).blk⟩, turn_drewN (((Turn.refl (fun k => k = rb) w).setCell ⟨rb, 2, none⟩ (.inl rfl) _).setCell ⟨rb, 1, none⟩ (.inl rfl) _) 1⟩

set_option maxHeartbeats 2000000 in
set_option maxRecDepth 10000 in
theorem sleb_rd (rb : Nat) (ao : Option Addr) (len cap t : Nat) (bs : Nat → Int) (w : World) (h : RD w rb (.slice ao len cap) (t : Int) true) (hr : Row w ao len bs) (hbs : ∀ i, 0 ≤ bs i ∧ bs i < 256) (hl : len ≤ 140737488355328) :
    Calls Tryd.prog 60 #[.pointer (some ⟨rb, 0, none⟩)] w fun e w' => RE (sR len bs t) w w' rb (.slice ao len cap) e := by
  have HU : Hid (∀ W, Below w.heap.size w W → Calls Tryd.prog 79 #[.slice ao len cap, .int .i64 (t : Int)] W fun e w' => RE3 (sR len bs t) e ∧ w' = W) := ⟨fun W hb => readS_rd ao len cap t bs W (hr.below hb (Nat.le_refl _)) hbs hl⟩
  have HD : Hid _ := ⟨h⟩
  have c0 := h.c0
  have c1 := h.c1
  have c2 := h.c2
  have f1 := h.fz 1
  have f2 := h.fz 2
  clear h hr hbs hl
  have d0 : w.drew.cell? ⟨rb, 0, none⟩ = _ := c0
  have d1 : w.drew.cell? ⟨rb, 1, none⟩ = _ := c1
  have HBd : Hid (Below w.heap.size w w.drew) := ⟨(Below.refl _ _).drew⟩
  cases hm : sR len bs t with
  | none =>
    rw [hm] at HU
    go_enter Tryd.func60, Tryd.ntmps60
    go_upto_region 1 with (fail)
    go_region_held3 (fun v => v.cell? ⟨rb, 0, none⟩ = some (.slice ao len cap) ∧ v.cell? ⟨rb, 1, none⟩ = some (.int .i64 (t : Int)))
      ((refine ⟨?_, ?_⟩) <;> (with_reducible assumption))
      ((go_at_call 79; (with_reducible refine (HU.out _ HBd.out).mono ?_); rintro e w1 ⟨⟨x, he, hx⟩, hw1⟩; subst he; subst w1; have hx' : (x == 0) = false := by simpa using hx))
    have k2 : w.drew.cell? ⟨rb, 2, none⟩ = some (.bool true) := c2
    have k3 : w.drew.frozen? ⟨rb, 2, none⟩ = false := f2
    have HR1 : Hid (RD (w.drew.setCell ⟨rb, 2, none⟩ (.bool false)) rb (.slice ao len cap) (t : Int) false) := ⟨RD.set2 (w := w.drew) ⟨HD.out.blk⟩ false⟩
    have m1 := HR1.out.c1
    have m2 := HR1.out.fz 1
    go_wp2
    go_ret
    exact ⟨_, _, rfl, ⟨((HD.out.set2 false).set1 _).blk⟩, turn_drewN (((Turn.refl (fun k => k = rb) w).setCell ⟨rb, 2, none⟩ (.inl rfl) _).setCell ⟨rb, 1, none⟩ (.inl rfl) _) 1⟩
  | some p =>
    obtain ⟨n, e9⟩ := p
    rw [hm] at HU
    go_enter Tryd.func60, Tryd.ntmps60
    go_upto_region 1 with (fail)
    go_region_held3 (fun v => v.cell? ⟨rb, 0, none⟩ = some (.slice ao len cap) ∧ v.cell? ⟨rb, 1, none⟩ = some (.int .i64 (t : Int)))
      ((refine ⟨?_, ?_⟩) <;> (with_reducible assumption))
      ((go_at_call 79; (with_reducible refine (HU.out _ HBd.out).mono ?_); rintro e w1 ⟨he, hw1⟩; (have he' : e = .returned (.tuple #[.int .i64 n, .int .i64 (e9 : Int), .int .i64 0]) := he); subst he'; subst w1))
    have k2 : w.drew.cell? ⟨rb, 2, none⟩ = some (.bool true) := c2
    have k3 : w.drew.frozen? ⟨rb, 2, none⟩ = false := f2
    have HR1 : Hid (RD (w.drew.setCell ⟨rb, 2, none⟩ (.bool true)) rb (.slice ao len cap) (t : Int) true) := ⟨RD.set2 (w := w.drew) ⟨HD.out.blk⟩ true⟩
    have m1 := HR1.out.c1
    have m2 := HR1.out.fz 1
    go_wp2
    go_ret
    exact ⟨rfl, ⟨((HD.out.set2 true).set1 _).blk⟩, turn_drewN (((Turn.refl (fun k => k = rb) w).setCell ⟨rb, 2, none⟩ (.inl rfl) _).setCell ⟨rb, 1, none⟩ (.inl rfl) _) 1⟩

/-- A number of so many bytes. -/
def gN (len : Nat) (bs : Nat → Int) (t s : Nat) : Option (Int × Nat) := if t + s ≤ len then some (gval bs t s false, t + s) else none
set_option maxHeartbeats 2000000 in
set_option maxRecDepth 10000 in
theorem number_rd (rb : Nat) (ao : Option Addr) (len cap t s : Nat) (bs : Nat → Int) (w : World) (h : RD w rb (.slice ao len cap) (t : Int) true) (hr : Row w ao len bs) (hbs : ∀ i, 0 ≤ bs i ∧ bs i < 256) (hl : len ≤ 1048576) (hs : s = 1 ∨ s = 2 ∨ s = 4 ∨ s = 8) (ht : t ≤ len) :
    Calls Tryd.prog 59 #[.pointer (some ⟨rb, 0, none⟩), .int .i64 (s : Int)] w fun e w' => RE (gN len bs t s) w w' rb (.slice ao len cap) e := by
  have HD : Hid _ := ⟨h⟩
  have c0 := h.c0
  have c1 := h.c1
  have c2 := h.c2
  have f1 := h.fz 1
  have f2 := h.fz 2
  have d0 : w.drew.cell? ⟨rb, 0, none⟩ = _ := c0
  have d1 : w.drew.cell? ⟨rb, 1, none⟩ = _ := c1
  have hs8 : (s : Int) ≤ 8 := by omega
  have ht2 : (t : Int) ≤ 1048576 := by omega
  unfold gN
  by_cases hin : t + s ≤ len
  · rw [if_pos hin]
    have HU : Hid _ := ⟨rget_ok ao len cap t s false bs w.drew (hr.below (Below.refl _ _).drew (Nat.le_refl _)) hbs (by omega) hs hin⟩
    clear h hr hbs hl
    generalize gval bs t s false = n at *
    go_enter Tryd.func59, Tryd.ntmps59
    go_upto_region 1 with (fail)
    go_region_held3 (fun v => v.cell? ⟨rb, 0, none⟩ = some (.slice ao len cap) ∧ v.cell? ⟨rb, 1, none⟩ = some (.int .i64 (t : Int)))
      ((refine ⟨?_, ?_⟩) <;> (with_reducible assumption))
      ((go_at_call 78; (with_reducible refine HU.out.mono ?_); rintro e w1 ⟨he, hw1⟩; subst he; subst w1))
    have k2 : w.drew.cell? ⟨rb, 2, none⟩ = some (.bool true) := c2
    have k3 : w.drew.frozen? ⟨rb, 2, none⟩ = false := f2
    have HR1 : Hid (RD (w.drew.setCell ⟨rb, 2, none⟩ (.bool true)) rb (.slice ao len cap) (t : Int) true) := ⟨RD.set2 (w := w.drew) ⟨HD.out.blk⟩ true⟩
    have m1 := HR1.out.c1
    have m2 := HR1.out.fz 1
    go_wp2
    go_ret
    refine ⟨rfl, ?_, turn_drewN (((Turn.refl (fun k => k = rb) w).setCell ⟨rb, 2, none⟩ (.inl rfl) _).setCell ⟨rb, 1, none⟩ (.inl rfl) _) 1⟩
    rw [show ((t + s : Nat) : Int) = (t : Int) + (s : Int) by omega]
    exact ⟨((HD.out.set2 true).set1 _).blk⟩
  · rw [if_neg hin]
    have HU : Hid _ := ⟨rget_end ao len cap (t : Int) (s : Int) false w.drew (by omega) (by omega) (.inr (by omega))⟩
    clear h hr hbs hl
    go_enter Tryd.func59, Tryd.ntmps59
    go_upto_region 1 with (fail)
    go_region_held3 (fun v => v.cell? ⟨rb, 0, none⟩ = some (.slice ao len cap) ∧ v.cell? ⟨rb, 1, none⟩ = some (.int .i64 (t : Int)))
      ((refine ⟨?_, ?_⟩) <;> (with_reducible assumption))
      ((go_at_call 78; (with_reducible refine HU.out.mono ?_); rintro e w1 ⟨he, hw1⟩; subst he; subst w1))
    have k2 : w.drew.cell? ⟨rb, 2, none⟩ = some (.bool true) := c2
    have k3 : w.drew.frozen? ⟨rb, 2, none⟩ = false := f2
    have HR1 : Hid (RD (w.drew.setCell ⟨rb, 2, none⟩ (.bool false)) rb (.slice ao len cap) (t : Int) false) := ⟨RD.set2 (w := w.drew) ⟨HD.out.blk⟩ false⟩
    have m1 := HR1.out.c1
    have m2 := HR1.out.fz 1
    go_wp2
    go_ret
    exact ⟨_, _, rfl, ⟨((HD.out.set2 false).set1 _).blk⟩, turn_drewN (((Turn.refl (fun k => k = rb) w).setCell ⟨rb, 2, none⟩ (.inl rfl) _).setCell ⟨rb, 1, none⟩ (.inl rfl) _) 1⟩

/-- A number of eights below the frame's address. -/
def facM (n : Int) : Option Int := if 1099511627776 < n ∨ n < -1099511627776 then none else some (-8 * n)
set_option maxRecDepth 10000 in
theorem factor_ok (rb : Nat) (n m : Int) (w : World) (h : facM n = some m) :
    Calls Tryd.prog 57 #[.pointer (some ⟨rb, 0, none⟩), .int .i64 n] w fun e w' => e = .returned (.int .i64 m) ∧ w' = w := by
  unfold facM at h
  split at h
  · cases h
  · rename_i hn
    simp only [Option.some.injEq] at h
    subst h
    have h1 : ¬ 1099511627776 < n := by omega
    have h2 : ¬ n < -1099511627776 := by omega
    have h3 : -1099511627776 ≤ n := by omega
    have h4 : n ≤ 1099511627776 := by omega
    clear hn
    go_enter Tryd.func57, Tryd.ntmps57
    go_wp2
    go_ret
    exact ⟨rfl, rfl⟩
set_option maxRecDepth 10000 in
theorem factor_no (rb : Nat) (v : Value) (t : Int) (ok : Bool) (n : Int) (w : World) (hd : RD w rb v t ok) (h : facM n = none) :
    Calls Tryd.prog 57 #[.pointer (some ⟨rb, 0, none⟩), .int .i64 n] w fun e w' => ∃ m : Int, e = .returned (.int .i64 m) ∧ RD w' rb v t false ∧ Turn (fun k => k = rb) w w' := by
  have c2 := hd.c2
  have f2 := hd.fz 2
  have HD : Hid _ := ⟨hd⟩
  clear hd
  unfold facM at h
  split at h
  · rename_i hn
    clear h
    by_cases h1 : 1099511627776 < n
    · clear hn
      go_enter Tryd.func57, Tryd.ntmps57
      go_wp2
      go_ret
      first | exact ⟨0, rfl, HD.out.set2 false, (Turn.refl (fun k => k = rb) w).setCell ⟨rb, 2, none⟩ (.inl rfl) _⟩ | exact ⟨⟨0, rfl⟩, HD.out.set2 false, (Turn.refl (fun k => k = rb) w).setCell ⟨rb, 2, none⟩ (.inl rfl) _⟩
    · have h2 : n < -1099511627776 := by omega
      clear hn
      go_enter Tryd.func57, Tryd.ntmps57
      go_wp2
      go_ret
      first | exact ⟨0, rfl, HD.out.set2 false, (Turn.refl (fun k => k = rb) w).setCell ⟨rb, 2, none⟩ (.inl rfl) _⟩ | exact ⟨⟨0, rfl⟩, HD.out.set2 false, (Turn.refl (fun k => k = rb) w).setCell ⟨rb, 2, none⟩ (.inl rfl) _⟩
  · cases h
theorem factor_false (rb : Nat) (v : Value) (t : Int) (n : Int) (w : World) (hd : RD w rb v t false) :
    Calls Tryd.prog 57 #[.pointer (some ⟨rb, 0, none⟩), .int .i64 n] w fun e w' => ∃ m : Int, e = .returned (.int .i64 m) ∧ RD w' rb v t false ∧ Turn (fun k => k = rb) w w' := by
  cases h : facM n with
  | none => exact factor_no rb v t false n w hd h
  | some m =>
    refine (factor_ok rb n m w h).mono ?_
    rintro e w' ⟨rfl, rfl⟩
    exact ⟨m, rfl, hd, Turn.refl _ _⟩
end Go.Proofs.YtgldijohpfihaaaDoor
