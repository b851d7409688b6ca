/- A Place that is handed in. -/
import Derived.Test.YtjbepojopfbajaaVPlain
import Derived.OpenShut
import Derived.ChangeOld
import Derived.SizedLaws
namespace Go.Proofs.Ytjbepojopfbajaa
open Go.ChangeShapes Go.WideShapes Go.ChangeAt Go.RowKit
set_option linter.unusedVariables false

/-- Its numbers are ints. -/
structure PlW (x : Pl) : Prop where
  s : (Lit.int .i64 x.s).wf = true
  a : (Lit.int .i64 x.a).wf = true
  p : (Lit.int .i64 x.p).wf = true
  g : (Lit.int .i64 x.g).wf = true
  t : (Lit.int .i64 x.t).wf = true
theorem cellsPl : Try.prog.cellsOf 23 = 5 := by kernel_rfl
theorem cells3 : Try.prog.cellsOf 3 = 1 := by kernel_rfl
set_option maxRecDepth 20000 in
theorem open_pl {H : Type} {enc : TypeId × Value → H} {w : World} {base b0 : Nat} {sp : Nat → Bool} {held : Bool} {r : Reach} {v : Value} {d : DataW H} {p : List MemPlace}
    (hval : Value.okWide Try.prog w r b0 23 v) (hd : DataW.Trod enc Try.prog w base sp held 23 v d p) :
    ∃ x : Pl, v = x.val ∧ d = .agg [.lit (.int .i64 x.s), .lit (.int .i64 x.a), .lit (.int .i64 x.p), .lit (.int .i64 x.g), .lit (.int .i64 x.t)] ∧ p = [] ∧ PlW x := by
  obtain ⟨cs, rfl, hsz⟩ := okWide_struct Try.underlying23 hval
  rw [cellsPl] at hsz
  obtain ⟨fuel, hf⟩ := hd
  obtain ⟨xs, n, _, hx, hl, hlen, hfs⟩ := DataW.trod_struct Try.underlying23 hf
  obtain ⟨l⟩ := cs
  match l, hsz, xs, hlen with
  | [x0, x1, x2, x3, x4], _, [y0, y1, y2, y3, y4], _ =>
    have h0 := hfs 0 _ rfl
    have h1 := hfs 1 _ rfl
    have h2 := hfs 2 _ rfl
    have h3 := hfs 3 _ rfl
    have h4 := hfs 4 _ rfl
    simp [cells3, Value.cells] at h0 h1 h2 h3 h4
    obtain ⟨b0, e0, f0, g0⟩ := DataW.trod_int Try.underlying3 h0
    obtain ⟨b1, e1, f1, g1⟩ := DataW.trod_int Try.underlying3 h1
    obtain ⟨b2, e2, f2, g2⟩ := DataW.trod_int Try.underlying3 h2
    obtain ⟨b3, e3, f3, g3⟩ := DataW.trod_int Try.underlying3 h3
    obtain ⟨b4, e4, f4, g4⟩ := DataW.trod_int Try.underlying3 h4
    simp at e0 e1 e2 e3 e4
    subst e0 e1 e2 e3 e4 f0 f1 f2 f3 f4
    have hx1 := congrArg Prod.fst hx
    have hx2 := congrArg Prod.snd hx
    simp at hx1 hx2
    exact ⟨⟨b0, b1, b2, b3, b4⟩, rfl, hx1, hx2, ⟨g0, g1, g2, g3, g4⟩⟩
set_option maxRecDepth 20000 in
theorem shut_pl {H : Type} {enc : TypeId × Value → H} {w : World} {base : Nat} {sp : Nat → Bool} {held : Bool} {x : Pl} (h : PlW x) :
    DataW.Trod enc Try.prog w base sp held 23 x.val (.agg [.lit (.int .i64 x.s), .lit (.int .i64 x.a), .lit (.int .i64 x.p), .lit (.int .i64 x.g), .lit (.int .i64 x.t)]) [] := by
  obtain ⟨s, a, p, g, t⟩ := x
  obtain ⟨h1, h2, h3, h4, h5⟩ := h
  exact ⟨2, by simp [DataW.trod, Try.underlying23, Try.underlying3, cellsPl, cells3, Value.cells, h1, h2, h3, h4, h5]⟩
end Go.Proofs.Ytjbepojopfbajaa
