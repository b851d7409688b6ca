/- The work in memory. -/
import Derived.Test.YtojiomkinhnodaaYByG
namespace Go.Proofs.Ytojiomkinhnodaa
open Go.ChangeShapes Go.WideShapes Go.ChangeAt Go.RowKit Go.Maps
set_option linter.unusedVariables false
set_option linter.unusedSimpArgs false

def encO (x : Ou) : List Value := [.string x.nm, .int .i64 x.ty, .int .i64 x.fl, .int .i64 x.al, .int .i64 x.ad, .int .i64 x.sz]
theorem encO_len (r : Ou) : (encO r).length = 6 := rfl
theorem encO_one (r : Ou) : ∀ v ∈ encO r, v.oneCell' = true := List.all_eq_true.1 rfl
theorem infoO : (Try.prog.info? 47).map (fun i => (i.zero, i.size, i.bytes)) = some (some (.agg (encO Ou.zero).toArray), 6, 56) := by kernel_rfl
/-- Blocks that work may turn: its own, numbers, sections of the image. -/
def TY (w : World) (q : Nat) : Prop := ∃ cur t, w.heap[q]? = some (.cells cur t (0, 0)) ∧ (t = 95 ∨ t = 3 ∨ t = 47 ∨ t = 48)
def Tw (a b : World) : Prop := Turn (TY a) a b
theorem Tw.refl (w : World) : Tw w w := Turn.refl _ w
theorem TY.back {a b : World} (h : Tw a b) {q : Nat} (hq : q < a.heap.size) (hb : TY b q) : TY a q := by
  by_cases e : TY a q
  · exact e
  · obtain ⟨cur, t, h1, h2⟩ := hb
    exact ⟨cur, t, (h.block q hq e).symm.trans h1, h2⟩
theorem Tw.trans {a b c : World} (h : Tw a b) (k : Tw b c) : Tw a c := Turn.trans' h k (fun i hi hb => TY.back h hi hb)
theorem Tw.bel {a b c : World} (h : Tw a b) (k : Below b.heap.size b c) : Tw a c := h.trans (Turn.of_below k _)
theorem Tw.alloc {a b : World} (h : Tw a b) (o : Obj) : Tw a (b.alloc o) := h.bel ((Below.refl _ _).alloc (Nat.le_refl _) o)
theorem Tw.setC {a b : World} (h : Tw a b) {g t : Nat} {cs : Array Value} (hb : Bk b g t cs) (ht : t = 95 ∨ t = 3 ∨ t = 47 ∨ t = 48) (j : Nat) (V : Value) : Tw a (b.setCell ⟨g, j, none⟩ V) :=
  h.trans ((Turn.refl _ b).setC (show TY b g from ⟨cs, t, hb.hp, ht⟩) j V)
theorem Tw.row {a b : World} (h : Tw a b) {base s n e : Nat} {v : Value} {xs : List Value} (hr : a.ownsRow base e s v n xs) (he : e ≠ 95 ∧ e ≠ 3 ∧ e ≠ 47 ∧ e ≠ 48) : b.ownsRow base e s v n xs :=
  Turn.row h hr (fun q hq ht => by
    obtain ⟨_, _, cur, hc⟩ := own_cells2 hr q hq
    obtain ⟨cur2, t, h1, h2⟩ := ht
    rw [hc] at h1
    injection h1 with h1
    injection h1 with _ h3 _
    subst h3
    rcases h2 with h2 | h2 | h2 | h2
    · exact he.1 h2
    · exact he.2.1 h2
    · exact he.2.2.1 h2
    · exact he.2.2.2 h2)
theorem Tw.bk {a b : World} (h : Tw a b) {g e : Nat} {cs : Array Value} (hb : Bk a g e cs) (he : e ≠ 95 ∧ e ≠ 3 ∧ e ≠ 47 ∧ e ≠ 48) : Bk b g e cs :=
  hb.turn h (fun ht => by
    obtain ⟨cur2, t, h1, h2⟩ := ht
    rw [hb.hp] at h1
    injection h1 with h1
    injection h1 with _ h3 _
    subst h3
    rcases h2 with h2 | h2 | h2 | h2
    · exact he.1 h2
    · exact he.2.1 h2
    · exact he.2.2.1 h2
    · exact he.2.2.2 h2)

/-- The blocks that the work stands in. -/
structure Wk where
  p : Nat
  b : Nat
  ao : Option Addr
  n : Nat
  c : Nat
  va : Option Addr
  vn : Nat
  vc : Nat
  oa : Option Addr
  on' : Nat
  oc : Nat
  bs : Nat → Nat
  ns : List Nat
  F : ByteArray → Option (Ou × Value)
abbrev Wk.cells (k : Wk) (en : Int) : Array Value := #[.slice k.ao k.n k.c, .map (some k.b), .slice k.va k.vn k.vc, .slice k.oa k.on' k.oc, .int .i64 en]
structure PW (w wr : World) (B : Nat) (k : Wk) (U : List So) (en : Int) (f : Nat → Nat → Int) (outs : List Ou) : Prop where
  kk : Bk wr k.p 95 (k.cells en)
  pB : B ≤ k.p
  a : AT wr B (.slice k.va k.vn k.vc) k.bs k.ns f
  o : OwnR 47 6 encO wr B (.slice k.oa k.on' k.oc) outs
  m : MG wr B k.b U k.F
  b : Below B w wr
/-- A block that is none of these. -/
structure PNe (k : Wk) (q : Nat) : Prop where
  p : q ≠ k.p
  b : q ≠ k.b
  bs : ∀ i, i < k.ns.length → k.bs i ≠ q
  v : ∀ r, Value.ownBlock (.slice k.va k.vn k.vc) = some r → r ≠ q
  o : ∀ r, Value.ownBlock (.slice k.oa k.on' k.oc) = some r → r ≠ q
  m : ∀ n p, k.F n = some p → ∀ r, p.2.ownBlock = some r → r ≠ q
section
variable {w wr v : World} {B : Nat} {k : Wk} {U : List So} {en : Int} {f : Nat → Nat → Int} {outs : List Ou}
theorem PW.bel (h : PW w wr B k U en f outs) (hB : w.heap.size = B) (g : Below wr.heap.size wr v) : PW w v B k U en f outs :=
  ⟨h.kk.bel g h.kk.lt, h.pB, h.a.bel g, own_bel h.o g, h.m.bel g, bt2 hB h.b g⟩
theorem PW.alloc (h : PW w wr B k U en f outs) (hB : w.heap.size = B) (o : Obj) : PW w (wr.alloc o) B k U en f outs := h.bel hB ((Below.refl _ _).alloc (Nat.le_refl _) o)
theorem PW.drew (h : PW w wr B k U en f outs) (hB : w.heap.size = B) : PW w wr.drew B k U en f outs := h.bel hB (Below.refl _ _).drew
theorem PW.fresh (h : PW w wr B k U en f outs) {q : Nat} (hq : wr.heap.size ≤ q) : PNe k q := by
  refine ⟨?_, ?_, fun i hi => ?_, fun r hr => ?_, fun r hr => ?_, fun n p hp r hr => ?_⟩
  · have := h.kk.lt; omega
  · have := h.m.mp.lt; omega
  · have := (h.a.bk i hi).2.lt; omega
  · have := (own_cells2 h.a.row r hr).2.1; omega
  · have := (own_cells2 h.o r hr).2.1; omega
  · have := ((h.m.at' n p.1 p.2 hp).2.lt r hr).2; omega
theorem PW.setQ (h : PW w wr B k U en f outs) {q : Nat} (hq : PNe k q) (hqB : B ≤ q) (j : Nat) (V : Value) : PW w (wr.setCell ⟨q, j, none⟩ V) B k U en f outs :=
  ⟨h.kk.setCo _ _ (Ne.symm hq.p), h.pB, h.a.far (grown_setC _ _ _ _) (fun x hx e => hq.v x hx (by injection e with e; exact e.symm)) (fun i hi e => hq.bs i hi (by injection e with e; exact e.symm)), own_far h.o (grown_setC _ _ _ _) (fun x hx e => hq.o x hx (by injection e with e; exact e.symm)), h.m.setC hq.b (fun n p hp x hx => Ne.symm (hq.m n p hp x hx)) _ _, bel_setC h.b _ hqB _⟩
theorem PW.ne_p (h : PW w wr B k U en f outs) : (∀ i, i < k.ns.length → k.bs i ≠ k.p) ∧ (∀ r, Value.ownBlock (.slice k.va k.vn k.vc) = some r → r ≠ k.p) ∧ (∀ r, Value.ownBlock (.slice k.oa k.on' k.oc) = some r → r ≠ k.p) ∧ k.p ≠ k.b ∧ ∀ n p, k.F n = some p → ∀ r, p.2.ownBlock = some r → r ≠ k.p := by
  have hbk : ∀ {t : Nat} {cs : Array Value} {q : Nat}, Bk wr q t cs → t ≠ 95 → q ≠ k.p := fun hq ht e => by
    subst e
    have := hq.hp.symm.trans h.kk.hp
    injection this with this
    injection this with _ e3 _
    exact ht e3
  refine ⟨fun i hi => hbk (t := 3) (h.a.bk i hi).2 (by decide), fun r hr e => own_ne_bk h.a.row h.kk (by decide) (e ▸ hr), fun r hr e => own_ne_bk h.o h.kk (by decide) (e ▸ hr), fun e => ?_, fun n p hp r hr e => own_ne_bk (h.m.at' n p.1 p.2 hp).2 h.kk (by decide) (e ▸ hr)⟩
  obtain ⟨es, clock, hb⟩ := h.m.mp.ismap
  rw [← e] at hb
  have := hb.symm.trans h.kk.hp
  cases this
/-- The end is set. -/
theorem PW.setE (h : PW w wr B k U en f outs) (en' : Int) : PW w (wr.setCell ⟨k.p, 4, none⟩ (.int .i64 en')) B k U en' f outs := by
  obtain ⟨h1, h2, h3, h4, h5⟩ := h.ne_p
  exact ⟨h.kk.setC 4 (.int .i64 en'), h.pB, h.a.far (grown_setC _ _ _ _) (fun x hx e => h2 x hx (by injection e with e; exact e.symm)) (fun i hi e => h1 i hi (by injection e with e; exact e.symm)), own_far h.o (grown_setC _ _ _ _) (fun x hx e => h3 x hx (by injection e with e; exact e.symm)), h.m.setC h4 (fun n p hp x hx => Ne.symm (h5 n p hp x hx)) _ _, bel_setC h.b _ h.pB _⟩
/-- A number is set. -/
theorem PW.setA (h : PW w wr B k U en f outs) (i j : Nat) (hi : i < k.ns.length) (x : Int) : PW w (wr.setCell ⟨k.bs i, j, none⟩ (.int .i64 x)) B k U en (setA f i j x) outs := by
  have hbi := (h.a.bk i hi)
  refine ⟨h.kk.setCo _ _ (Ne.symm (h.ne_p.1 i hi)), h.pB, h.a.set i j hi x, own_setC h.o (own_ne_bk h.o hbi.2 (by decide)) _ _, h.m.setC (fun e => ?_) (fun n p hp r hr e => own_ne_bk (h.m.at' n p.1 p.2 hp).2 hbi.2 (by decide) (hr.trans (congrArg some e.symm))) _ _, bel_setC h.b _ hbi.1 _⟩
  obtain ⟨es, clock, hb⟩ := h.m.mp.ismap
  rw [← e] at hb
  have := hb.symm.trans hbi.2.hp
  cases this
/-- One section of the image more. -/
theorem PW.app (h : PW w wr B k U en f outs) {w2 : World} {y : Ou} {oa : Option Addr} {on oc : Nat} (hs : Step wr w2 (.slice k.oa k.on' k.oc) (.slice oa on oc)) (ho : OwnR 47 6 encO w2 B (.slice oa on oc) (outs ++ [y])) : PW w (w2.setCell ⟨k.p, 3, none⟩ (.slice oa on oc)) B { k with oa := oa, on' := on, oc := oc } U en f (outs ++ [y]) := by
  obtain ⟨h1, h2, h3, h4, h5⟩ := h.ne_p
  have hk2 : Bk w2 k.p 95 (k.cells en) := h.kk.turn hs.turn (fun e => h3 _ e rfl)
  have ha2 : AT w2 B (.slice k.va k.vn k.vc) k.bs k.ns f := ⟨hs.turn.row h.a.row (fun q hq hq2 => by
      obtain ⟨_, _, c1, e1⟩ := own_cells2 h.a.row q hq
      obtain ⟨_, _, c2, e2⟩ := own_cells2 h.o q hq2
      rw [e1] at e2
      injection e2 with e2
      injection e2 with _ e3 _
      exact absurd e3 (by decide)), fun i hi => ⟨(h.a.bk i hi).1, (h.a.bk i hi).2.turn hs.turn (fun e => own_ne_bk h.o (h.a.bk i hi).2 (by decide) e)⟩, h.a.inj⟩
  have hm2 : MG w2 B k.b U k.F := h.m.turn hs.turn (fun e => own_ne_map h.o h.m.mp e) (fun n p hp q hq hq2 => by
      obtain ⟨_, _, c1, e1⟩ := own_cells2 (h.m.at' n p.1 p.2 hp).2 q hq
      obtain ⟨_, _, c2, e2⟩ := own_cells2 h.o q hq2
      rw [e1] at e2
      injection e2 with e2
      injection e2 with _ e3 _
      exact absurd e3 (by decide))
  have ho3 : ∀ r, Value.ownBlock (.slice oa on oc) = some r → r ≠ k.p := fun r hr e => own_ne_bk ho hk2 (by decide) (e ▸ hr)
  exact ⟨hk2.setC 3 _, h.pB, ha2.far (grown_setC _ _ _ _) (fun x hx e => h2 x hx (by injection e with e; exact e.symm)) (fun i hi e => h1 i hi (by injection e with e; exact e.symm)), own_far ho (grown_setC _ _ _ _) (fun x hx e => ho3 x hx (by injection e with e; exact e.symm)), hm2.setC h4 (fun n p hp x hx => Ne.symm (h5 n p hp x hx)) _ _, bel_setC (h.b.trans (hs.turn.below (by
      have := h.kk.lt
      have := h.pB
      omega) (fun q hq => (own_cells2 h.o q hq).1))) _ h.pB _⟩
end
end Go.Proofs.Ytojiomkinhnodaa
