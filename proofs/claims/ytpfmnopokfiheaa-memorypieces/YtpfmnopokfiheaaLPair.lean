/- Both Memories beside one another, and a call that lies in a block. -/
import Derived.Test.YtpfmnopokfiheaaLPieces
namespace Go.Proofs.Ytpfmnopokfiheaa
open Go.ChangeShapes Go.WideShapes Go.ChangeAt Go.RowKit Go.Maps
set_option linter.unusedVariables false
set_option linter.unusedSimpArgs false

/-- Both Memories, their blocks apart. -/
structure Pr (w : World) (mb gb : Nat) (pl : Nat → Nat) (L : List Pz) (rb : Nat) (lv : Value) (pb : Nat → Nat) (M : List Pz) : Prop where
  m : MA w mb gb pl L
  r : RA w rb lv pb M
  ap : ∀ b, MS mb gb pl L b → ¬ RS rb lv pb M b
/-- Their blocks. -/
def PB (mb gb : Nat) (pl : Nat → Nat) (L : List Pz) (rb : Nat) (lv : Value) (pb : Nat → Nat) (M : List Pz) (b : Nat) : Prop := MS mb gb pl L b ∨ RS rb lv pb M b
theorem Pr.lt {w : World} {mb gb : Nat} {pl : Nat → Nat} {L : List Pz} {rb : Nat} {lv : Value} {pb : Nat → Nat} {M : List Pz} (h : Pr w mb gb pl L rb lv pb M) {b : Nat} (hb : PB mb gb pl L rb lv pb M b) : b < w.heap.size := by
  rcases hb with hb | hb
  · exact h.m.slt hb
  · rcases hb with rfl | hb | ⟨p, hp, rfl⟩
    · exact h.r.rlt
    · exact h.r.vlt hb
    · exact h.r.blt hp
theorem Pr.below {w w' : World} {mb gb : Nat} {pl : Nat → Nat} {L : List Pz} {rb : Nat} {lv : Value} {pb : Nat → Nat} {M : List Pz} (h : Pr w mb gb pl L rb lv pb M) (hb : Below w.heap.size w w') : Pr w' mb gb pl L rb lv pb M :=
  ⟨h.m.below hb, h.r.below hb, h.ap⟩
theorem Pr.turn {w w' : World} {mb gb : Nat} {pl : Nat → Nat} {L : List Pz} {rb : Nat} {lv : Value} {pb : Nat → Nat} {M : List Pz} (h : Pr w mb gb pl L rb lv pb M) {S : Nat → Prop} (ht : Turn S w w') (hs : ∀ b, PB mb gb pl L rb lv pb M b → ¬ S b) : Pr w' mb gb pl L rb lv pb M :=
  ⟨h.m.turn ht fun b hb => hs b (.inl hb), h.r.turn ht fun b hb => hs b (.inr hb), h.ap⟩

/-- Where a step is: w0 the world that it began in, S the blocks of the Memories there. -/
structure St2 (w0 : World) (S : Nat → Prop) (w : World) (mb gb : Nat) (pl : Nat → Nat) (L : List Pz) (rb : Nat) (lv : Value) (pb : Nat → Nat) (M : List Pz) (B : Nat) (k : Int) (a : Nat) (n may x : Int) (bv : Value) : Prop where
  pr : Pr w mb gb pl L rb lv pb M
  op : OpC w B k a n may x bv
  lt : B < w.heap.size
  nb : ¬ PB mb gb pl L rb lv pb M B
  tu : Turn S w0 w
  new : ∀ b, PB mb gb pl L rb lv pb M b → S b ∨ w0.heap.size ≤ b
theorem OpC.turn {w w' : World} {B : Nat} {k : Int} {a : Nat} {n may x : Int} {b : Value} (h : OpC w B k a n may x b) (hl : B < w.heap.size) {S : Nat → Prop} (ht : Turn S w w') (hs : ¬ S B) : OpC w' B k a n may x b := by
  have e : ∀ o, w'.cell? ⟨B, o, none⟩ = w.cell? ⟨B, o, none⟩ := fun o => World.cell?_of_block (ht.block B hl hs)
  exact ⟨(e 0).trans h.c0, (e 1).trans h.c1, (e 2).trans h.c2, (e 3).trans h.c3, (e 4).trans h.c4, (e 5).trans h.c5⟩
theorem St2.bel {w0 : World} {S : Nat → Prop} {w w' : World} {mb gb : Nat} {pl : Nat → Nat} {L : List Pz} {rb : Nat} {lv : Value} {pb : Nat → Nat} {M : List Pz} {B : Nat} {k : Int} {a : Nat} {n may x : Int} {bv : Value} (h : St2 w0 S w mb gb pl L rb lv pb M B k a n may x bv) (hb : Below w.heap.size w w') : St2 w0 S w' mb gb pl L rb lv pb M B k a n may x bv :=
  ⟨h.pr.below hb, h.op.bel h.lt hb, Nat.lt_of_lt_of_le h.lt hb.size, h.nb, h.tu.trans' (Turn.of_below hb (fun _ => False)) (fun _ _ e => e.elim), h.new⟩
/-- Behind a call of the program's Memory. -/
theorem St2.nx {w0 : World} {S : Nat → Prop} {w w' : World} {mb gb : Nat} {pl : Nat → Nat} {L L' : List Pz} {rb : Nat} {lv : Value} {pb : Nat → Nat} {M : List Pz} {B : Nat} {k : Int} {a : Nat} {n may x : Int} {bv : Value} (h : St2 w0 S w mb gb pl L rb lv pb M B k a n may x bv) (hx : Nx w w' mb gb pl L L') : ∃ pl', St2 w0 S w' mb gb pl' L' rb lv pb M B k a n may x bv := by
  obtain ⟨pl', h1, h2, h3⟩ := hx
  refine ⟨pl', ⟨⟨h1, h.pr.r.turn h2 fun b hb hm => h.pr.ap b hm hb, fun b hb hr => ?_⟩, h.op.turn h.lt h2 fun hb => h.nb (.inl hb), Nat.lt_of_lt_of_le h.lt h2.size, fun hb => ?_, h.tu.trans' h2 fun i hi hs => ?_, fun b hb => ?_⟩⟩
  · rcases h3 b hb with h4 | h4
    · exact h.pr.ap b h4 hr
    · have := h.pr.lt (.inr hr); omega
  · rcases hb with hb | hb
    · rcases h3 B hb with h4 | h4
      · exact h.nb (.inl h4)
      · have := h.lt; omega
    · exact h.nb (.inr hb)
  · rcases h.new i (.inl hs) with h5 | h5
    · exact h5
    · omega
  · rcases hb with hb | hb
    · rcases h3 b hb with h4 | h4
      · exact h.new b (.inl h4)
      · exact .inr (by have := h.tu.size; omega)
    · exact h.new b (.inr hb)
/-- Behind a call of the document's Memory. -/
theorem St2.rx {w0 : World} {S : Nat → Prop} {w w' : World} {mb gb : Nat} {pl : Nat → Nat} {L : List Pz} {rb : Nat} {lv : Value} {pb : Nat → Nat} {M M' : List Pz} {B : Nat} {k : Int} {a : Nat} {n may x : Int} {bv : Value} (h : St2 w0 S w mb gb pl L rb lv pb M B k a n may x bv) (hx : RX w w' rb lv pb M M') : ∃ lv' pb', St2 w0 S w' mb gb pl L rb lv' pb' M' B k a n may x bv := by
  obtain ⟨lv', pb', h1, h2, h3⟩ := hx
  refine ⟨lv', pb', ⟨⟨h.pr.m.turn h2 fun b hb hm => h.pr.ap b hb hm, h1, fun b hb hr => ?_⟩, h.op.turn h.lt h2 fun hb => h.nb (.inr hb), Nat.lt_of_lt_of_le h.lt h2.size, fun hb => ?_, h.tu.trans' h2 fun i hi hs => ?_, fun b hb => ?_⟩⟩
  · rcases h3 b hr with h4 | h4
    · exact h.pr.ap b hb h4
    · have := h.pr.lt (.inl hb); omega
  · rcases hb with hb | hb
    · exact h.nb (.inl hb)
    · rcases h3 B hb with h4 | h4
      · exact h.nb (.inr h4)
      · have := h.lt; omega
  · rcases h.new i (.inr hs) with h5 | h5
    · exact h5
    · omega
  · rcases hb with hb | hb
    · exact h.new b (.inl hb)
    · rcases h3 b hb with h4 | h4
      · exact h.new b (.inr h4)
      · exact .inr (by have := h.tu.size; omega)
/-- Pages that have the same numbers. -/
theorem nx_k {w w' : World} {mb gb : Nat} {pl : Nat → Nat} {L L' : List Pz} (hk : L'.map (fun p => p.k) = L.map (fun p => p.k)) (h : MA w' mb gb pl L') (ht : Turn (MS mb gb pl L) w w') : Nx w w' mb gb pl L L' :=
  ⟨pl, h, ht, fun b hb => .inl (MS_k hk hb)⟩
theorem rx_k {w w' : World} {rb : Nat} {lv : Value} {pb : Nat → Nat} {L L' : List Pz} (hk : L'.map (fun p => p.k) = L.map (fun p => p.k)) (h : RA w' rb lv pb L') (ht : Turn (RS rb lv pb L) w w') : RX w w' rb lv pb L L' :=
  ⟨lv, pb, h, ht, fun b hb => .inl (RS_k hk hb)⟩
theorem givL_k (L : List Pz) (so ref : Int) (a : Nat) (bl : List Int) : (givL L so ref a bl).map (fun p => p.k) = L.map (fun p => p.k) := key_k (givL_key L so ref a bl)
theorem k_len {L L' : List Pz} (h : L'.map (fun p => p.k) = L.map (fun p => p.k)) : L'.length = L.length := by
  have := congrArg List.length h
  simpa using this

/-- What a step leaves. -/
def SX (w w' : World) (mb gb : Nat) (pl : Nat → Nat) (L : List Pz) (rb : Nat) (lv : Value) (pb : Nat → Nat) : Prop :=
  ∃ pl' lv' pb' L', Pr w' mb gb pl' L' rb lv' pb' L' ∧ L'.length ≤ 1024 ∧ Turn (PB mb gb pl L rb lv pb L) w w' ∧ ∀ b, PB mb gb pl' L' rb lv' pb' L' b → PB mb gb pl L rb lv pb L b ∨ w.heap.size ≤ b
theorem St2.sx {w0 : World} {w : World} {mb gb : Nat} {pl pl0 : Nat → Nat} {L L' : List Pz} {rb : Nat} {lv lv0 : Value} {pb pb0 : Nat → Nat} {B : Nat} {k : Int} {a : Nat} {n may x : Int} {bv : Value} (h : St2 w0 (PB mb gb pl0 L rb lv0 pb0 L) w mb gb pl L' rb lv pb L' B k a n may x bv) (hl : L'.length ≤ 1024) : SX w0 w mb gb pl0 L rb lv0 pb0 :=
  ⟨pl, lv, pb, L', h.pr, hl, h.tu, h.new⟩
/-- A step begins: its call is laid into a block. -/
theorem st2_start {w : World} {mb gb : Nat} {pl : Nat → Nat} {L : List Pz} {rb : Nat} {lv : Value} {pb : Nat → Nat} (h : Pr w mb gb pl L rb lv pb L) (k : Int) (a : Nat) (n may x : Int) (bv : Value) (t : TypeId) :
    St2 w (PB mb gb pl L rb lv pb L) (w.alloc (.cells #[.int .i64 k, .int .u64 (a : Int), .int .i64 n, .int .i64 may, .int .u64 x, bv] t)) mb gb pl L rb lv pb L w.heap.size k a n may x bv :=
  ⟨h.below ((Below.refl _ _).alloc (Nat.le_refl _) _), ⟨by simp, by simp, by simp, by simp, by simp, by simp⟩, by simp, fun hb => by have := h.lt hb; omega, (Turn.refl _ _).alloc _, fun b hb => .inl hb⟩
end Go.Proofs.Ytpfmnopokfiheaa
