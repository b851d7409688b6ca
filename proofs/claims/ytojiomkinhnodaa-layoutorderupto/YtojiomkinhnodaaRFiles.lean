/- Objects in memory. -/
import Derived.Test.YtojiomkinhnodaaRSmall
namespace Go.Proofs.Ytojiomkinhnodaa
open Go.ChangeShapes Go.WideShapes Go.ChangeAt Go.RowKit Go.Maps
set_option linter.unusedVariables false
set_option linter.unusedSimpArgs false

/-- A section lies at place o of block b. -/
structure SecAt (w : World) (b o : Nat) (s : Sec) : Prop where
  nm : w.cell? ⟨b, o, none⟩ = some (.string s.nm)
  ty : w.cell? ⟨b, o + 1, none⟩ = some (.int .i64 s.ty)
  fl : w.cell? ⟨b, o + 2, none⟩ = some (.int .i64 s.fl)
  al : w.cell? ⟨b, o + 3, none⟩ = some (.int .i64 s.al)
  da : w.cell? ⟨b, o + 4, none⟩ = some (.slice s.da s.dn s.dc)
  sz : w.cell? ⟨b, o + 5, none⟩ = some (.int .i64 s.sz)
  re : w.cell? ⟨b, o + 6, none⟩ = some (.slice s.ra s.rn s.rc)
theorem SecAt.below {w w' : World} {b o : Nat} {s : Sec} (h : SecAt w b o s) {B : Nat} (hb : Below B w w') (hB : w.heap.size ≤ B) : SecAt w' b o s := by
  have k : b < B := Nat.lt_of_lt_of_le (World.block_lt_of_cell? w ⟨b, o, none⟩ h.nm) hB
  exact ⟨(hb.cell (p := ⟨b, o, none⟩) k).trans h.nm, (hb.cell (p := ⟨b, o + 1, none⟩) k).trans h.ty, (hb.cell (p := ⟨b, o + 2, none⟩) k).trans h.fl, (hb.cell (p := ⟨b, o + 3, none⟩) k).trans h.al, (hb.cell (p := ⟨b, o + 4, none⟩) k).trans h.da, (hb.cell (p := ⟨b, o + 5, none⟩) k).trans h.sz, (hb.cell (p := ⟨b, o + 6, none⟩) k).trans h.re⟩
def Secs (w : World) (ao : Option Addr) (l : List Sec) : Prop :=
  l = [] ∨ ∃ b off, ao = some ⟨b, off, none⟩ ∧ ∀ i, i < l.length → SecAt w b (off + i * 7) (l.getD i Sec.zero)
theorem Secs.below {w w' : World} {ao : Option Addr} {l : List Sec} (h : Secs w ao l) {B : Nat} (hb : Below B w w') (hB : w.heap.size ≤ B) : Secs w' ao l := by
  rcases h with h | ⟨b, off, e, h⟩
  · exact .inl h
  · exact .inr ⟨b, off, e, fun i hi => (h i hi).below hb hB⟩
/-- What a call is told of an object: its lists lie in memory, their lengths, its texts' sizes. -/
structure FlIn (w : World) (f : Fl) : Prop where
  se : Secs w f.sa f.secs
  sy : Syms w f.ya f.syms
theorem FlIn.below {w w' : World} {f : Fl} (h : FlIn w f) {B : Nat} (hb : Below B w w') (hB : w.heap.size ≤ B) : FlIn w' f := ⟨h.se.below hb hB, h.sy.below hb hB⟩
structure FlB (f : Fl) : Prop where
  ns : f.secs.length ≤ 1048577
  ny : f.syms.length ≤ 1048577
  zs : ∀ s ∈ f.secs, s.nm.size ≤ 9223372036854775807
  zy : SZ f.syms
structure FlAt (w : World) (b o : Nat) (f : Fl) : Prop where
  c0 : w.cell? ⟨b, o, none⟩ = some (.slice f.sa f.secs.length f.sc)
  c1 : w.cell? ⟨b, o + 1, none⟩ = some (.slice f.ya f.syms.length f.yc)
  ins : FlIn w f
theorem FlAt.below {w w' : World} {b o : Nat} {f : Fl} (h : FlAt w b o f) {B : Nat} (hb : Below B w w') (hB : w.heap.size ≤ B) : FlAt w' b o f := by
  have k : b < B := Nat.lt_of_lt_of_le (World.block_lt_of_cell? w ⟨b, o, none⟩ h.c0) hB
  exact ⟨(hb.cell (p := ⟨b, o, none⟩) k).trans h.c0, (hb.cell (p := ⟨b, o + 1, none⟩) k).trans h.c1, h.ins.below hb hB⟩
def Fls (w : World) (ao : Option Addr) (l : List Fl) : Prop :=
  l = [] ∨ ∃ b off, ao = some ⟨b, off, none⟩ ∧ ∀ i, i < l.length → FlAt w b (off + i * 2) (l.getD i Fl.zero)
theorem Fls.below {w w' : World} {ao : Option Addr} {l : List Fl} (h : Fls w ao l) {B : Nat} (hb : Below B w w') (hB : w.heap.size ≤ B) : Fls w' ao l := by
  rcases h with h | ⟨b, off, e, h⟩
  · exact .inl h
  · exact .inr ⟨b, off, e, fun i hi => (h i hi).below hb hB⟩
structure FlsB (l : List Fl) : Prop where
  n : l.length ≤ 1048577
  each : ∀ f ∈ l, FlB f
  sum : (occ l).length ≤ 2097152 ∧ (l.flatMap (·.secs)).length ≤ 2097152
end Go.Proofs.Ytojiomkinhnodaa
