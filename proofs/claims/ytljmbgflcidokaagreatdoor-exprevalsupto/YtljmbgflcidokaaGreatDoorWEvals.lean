/- Law ExprEvals: Defs that are handed in, as the program has them. firstPlaces of any Defs: a range over a function that writes a map. Law ExprEvals: the walk. Law ExprEvals: what comes in is small. -/
import Derived.Test.YtljmbgflcidokaaGreatDoorZPre
import Derived.Test.YtljmbgflcidokaaGreatDoorYVal
import Derived.Deep.RegionHeldLaw
import Derived.Deep.AppendLies
import Derived.LaidLaws
import Derived.Deep.Slices
import Derived.ChangeOld
import Derived.OpenShut
import Derived.Test.YtljmbgflcidokaaGreatDoorWEv
import Derived.Deep.RegionHeld3
import Derived.Test.YtljmbgflcidokaaGreatDoorRows
namespace Go.Proofs.YtljmbgflcidokaaGreatDoor
open Go.ChangeShapes Go.WideShapes Go.ChangeAt Go.RowKit
open Go.ChangeShapes Go.WideShapes Go.ChangeAt Go.RowKit Go.Maps Go.Shelf
set_option linter.unusedVariables false
set_option linter.unusedSimpArgs false

def Dx.cells (d : Dx) : List Value := [.string d.s, .string d.v.p, .string d.v.m, .int .i64 d.v.n]
def dCells (l : List Dx) : List Value := l.flatMap Dx.cells
theorem dCells_len (l : List Dx) : (dCells l).length = l.length * 4 := by
  induction l with
  | nil => rfl
  | cons s l ih =>
    show (Dx.cells s ++ dCells l).length = _
    rw [List.length_append, ih]
    simp [Dx.cells]; omega
theorem dCells_append (a b : List Dx) : dCells (a ++ b) = dCells a ++ dCells b := by simp [dCells]
theorem dCells_one (l : List Dx) : ∀ u ∈ dCells l, u.oneCell' = true := by
  intro u hu
  simp only [dCells, List.mem_flatMap, Dx.cells, List.mem_cons, List.not_mem_nil, or_false] at hu
  obtain ⟨d, _, rfl | rfl | rfl | rfl⟩ := hu <;> rfl
theorem dCells_at : ∀ (l : List Dx) (i j : Nat), i < l.length → j < 4 → (dCells l)[i * 4 + j]? = (Dx.cells (l.getD i Dx.none))[j]?
  | d :: l, 0, j, _, hj => by
    show (Dx.cells d ++ dCells l)[0 * 4 + j]? = _
    rw [Nat.zero_mul, Nat.zero_add, List.getElem?_append_left (by simp [Dx.cells]; omega)]
    rfl
  | d :: l, i + 1, j, hi, hj => by
    show (Dx.cells d ++ dCells l)[(i + 1) * 4 + j]? = _
    rw [List.getElem?_append_right (by simp [Dx.cells]; omega)]
    have := dCells_at l i j (by simpa using hi) hj
    rw [show (i + 1) * 4 + j - (Dx.cells d).length = i * 4 + j by simp [Dx.cells]; omega, this]
    rfl
/-- A row of Defs of the call's own. -/
def OwnD (w : World) (base : Nat) (v : Value) (l : List Dx) : Prop := w.ownsRow base 74 4 v l.length (dCells l)
theorem OwnD.nil (w : World) (base : Nat) : OwnD w base (.slice none 0 0) [] := World.ownsRow_nil _ _ _ _
theorem OwnD.turn {w w' : World} {base : Nat} {v : Value} {l : List Dx} (h : OwnD w base v l) {S : Nat → Prop} (ht : Turn S w w') (hS : ∀ k, v.ownBlock = some k → ¬ S k) : OwnD w' base v l := ht.row h hS
theorem OwnD.bel {w w' : World} {base : Nat} {v : Value} {l : List Dx} (h : OwnD w base v l) (hb : Below w.heap.size w w') : OwnD w' base v l := h.turn (Turn.of_below hb (fun _ => False)) (fun _ _ e => e)
theorem OwnD.any {w : World} {base : Nat} {v : Value} {l : List Dx} (h : OwnD w base v l) : ∃ ao cap, v = .slice ao l.length cap ∧ (l = [] ∨ ∃ b off, ao = some ⟨b, off, none⟩ ∧ ∀ i, i < l.length → DefAt w b (off + i * 4) (l.getD i Dx.none)) := by
  rcases h.2 with ⟨hv, hn⟩ | ⟨g, cap, cur, hv, _, hg, h1, h2, _⟩
  · have hl : l = [] := List.eq_nil_of_length_eq_zero hn
    subst hl
    exact ⟨none, 0, hv, .inl rfl⟩
  · refine ⟨_, cap, hv, .inr ⟨g, 0, rfl, fun i hi => ?_⟩⟩
    subst hv
    have hc : ∀ j, j < 4 → w.cell? ⟨g, 0 + i * 4 + j, none⟩ = (Dx.cells (l.getD i Dx.none))[j]? := fun j hj => by
      have := h.cellAt (i * 4 + j) (by omega)
      rw [Nat.zero_add, this, dCells_at l i j hi hj]
    exact ⟨hc 0 (by omega), hc 1 (by omega), hc 2 (by omega), hc 3 (by omega)⟩
def zeroD : Array Value := #[.string ⟨#[]⟩, .string ⟨#[]⟩, .string ⟨#[]⟩, .int .i64 0]
theorem infoD : (Tryz.prog.info? 74).map (fun i => (i.zero, i.size, i.bytes)) = some (some (.agg zeroD), 4, 56) := by kernel_rfl
/-- Defs that are handed in. -/
def DefsIn (w : World) (ao : Option Addr) (l : List Dx) : Prop := l = [] ∨ ∃ b off, ao = some ⟨b, off, none⟩ ∧ ∀ i, i < l.length → DefAt w b (off + i * 4) (l.getD i Dx.none)
theorem DefsIn.below {w w' : World} {ao : Option Addr} {l : List Dx} (h : DefsIn w ao l) (hb : Below w.heap.size w w') : DefsIn w' ao l := by
  rcases h with h | ⟨b, off, e, h⟩
  · exact .inl h
  · exact .inr ⟨b, off, e, fun i hi => (h i hi).turn (Turn.of_below hb (fun _ => False)) (fun e => e)⟩
/-- What the region that copies one stands on. -/
abbrev C4 (b o : Nat) (d : Dx) (v : World) : Prop := v.cell? ⟨b, o, none⟩ = some (.string d.s) ∧ v.cell? ⟨b, o + 1, none⟩ = some (.string d.v.p) ∧ v.cell? ⟨b, o + 2, none⟩ = some (.string d.v.m) ∧ v.cell? ⟨b, o + 3, none⟩ = some (.int .i64 d.v.n)
theorem C4.bel {b o : Nat} {d : Dx} {u v : World} (h : C4 b o d u) (hb : Below u.heap.size u v) : C4 b o d v := ⟨to_bel hb h.1, to_bel hb h.2.1, to_bel hb h.2.2.1, to_bel hb h.2.2.2⟩
theorem C4.far {b o : Nat} {d : Dx} {u v : World} {row : Option Nat} (h : C4 b o d u) (hg : u.grownBy v row) (hb : b < u.heap.size) (hr : row ≠ some b) : C4 b o d v :=
  ⟨(hg.cell_far _ hb (Ne.symm hr)).trans h.1, (hg.cell_far _ hb (Ne.symm hr)).trans h.2.1, (hg.cell_far _ hb (Ne.symm hr)).trans h.2.2.1, (hg.cell_far _ hb (Ne.symm hr)).trans h.2.2.2⟩
abbrev dcell (d : Dx) : Obj := .cells #[.string d.s, .string d.v.p, .string d.v.m, .int .i64 d.v.n] 74

set_option maxHeartbeats 4000000 in
set_option maxRecDepth 10000 in
theorem known_any (ao : Option Addr) (c : Nat) (l : List Dx) (w : World) (hl : l.length ≤ 1048576) (hr : DefsIn w ao l) :
    Calls Tryz.prog 10 #[.slice ao l.length c] w fun e w' => ∃ v, e = .returned v ∧ OwnD w' w.heap.size v l ∧ (l = [] → v = .slice none 0 0) ∧ Below w.heap.size w w' := by
  have HR : Hid _ := ⟨hr⟩
  have HVal : Hid _ := ⟨valY_any⟩
  obtain ⟨i0, hi, hz0, hz1, hz2⟩ := info_parts infoD
  have HI : Hid (_ ∧ _ ∧ _ ∧ _) := ⟨hi, hz0, hz1, hz2⟩
  clear hr hi hz0 hz1 hz2
  go_enter Tryz.func10, Tryz.ntmps10
  go_wp2
  go_loopw [4, 3] (fun i v wr => ∃ k : Nat, k ≤ l.length ∧ i = .int .i64 k ∧ Hid (OwnD wr w.heap.size v (l.take k) ∧ Below w.heap.size w wr ∧ (k = 0 → v = .slice none 0 0))) (fun i _ _ => l.length - (intOf i).toNat)
  case atStart => exact ⟨0, by omega, rfl, ⟨OwnD.nil _ _, Below.refl _ _, fun _ => rfl⟩⟩
  case round =>
    obtain ⟨k, hk, rfl, HW⟩ := hrel
    by_cases hlt : k < l.length
    · obtain ⟨b, off, e1, hat⟩ := HR.out.resolve_left (fun e => by rw [e] at hlt; simp at hlt)
      subst e1
      obtain ⟨d, HD⟩ : ∃ d, Hid (l.getD k Dx.none = d) := ⟨_, ⟨rfl⟩⟩
      have hdk := hat k hlt
      have hbw : b < w.heap.size := World.block_lt_of_cell? w _ hdk.s
      have hdr := hdk.turn (Turn.of_below HW.out.2.1 (fun _ => False)) (fun e => e)
      rw [HD.out] at hdr
      have hlti : (k : Int) < (l.length : Int) := by omega
      have hk0 : (0 : Int) ≤ (k : Int) := by omega
      have hki : ¬ (k : Int) < 0 := by omega
      have hwk : IntKind.i64.wrap ((k : Int) + 1) = ((k + 1 : Nat) : Int) := by rw [IntKind.wrap_i64]; omega
      have HT : Hid (l.take (k + 1) = l.take k ++ [d]) := ⟨by rw [← HD.out, getD_at _ _ hlt]; exact List.take_succ_eq_append_getElem hlt⟩
      have htl : (l.take k).length = k := by rw [List.length_take]; omega
      have hbs := HW.out.2.1.size
      have hbr : b < wr.heap.size := by omega
      have hvb : u3.ownBlock ≠ some b := fun e => by have := own_block HW.out.1 b e; omega
      have K0 : C4 b (off + k * 4) d wr.drew := ⟨hdr.s, hdr.p, hdr.m, hdr.n⟩
      clear hat hdk hdr
      go_wp2
      go_region_held_law (fun v' => C4 b (off + k * 4) d v')
        (first | go_keep | (with_reducible assumption) | exact C4.bel KP (bel_alloc (Below.refl _ _) _) | exact C4.bel (by with_reducible assumption) hbp | exact C4.far (C4.bel KP (bel_alloc (Below.refl _ _) (dcell d))) hgrow (by simp; omega) hvb)
        (first
          | (go_at_call 12; (with_reducible refine (HVal.out _ _ _ _).mono ?_); rintro e wp ⟨rfl, hbp⟩; have KP := C4.bel K0 hbp; have HOp : Hid (OwnD wp w.heap.size u3 (l.take k)) := ⟨(HW.out.1.bel (Below.refl _ _).drew).bel hbp⟩; have HBp : Hid (Below w.heap.size w wp) := ⟨bel_trans HW.out.2.1.drew hbp⟩; have hbp2 : b < wp.heap.size := (Nat.lt_of_lt_of_le hbr hbp.size); have hbp3 := HBp.out.size)
          | (refine step_append_lies _ (by rfl) _ _ _ (by rfl) w.heap.size 74 i0 (.agg zeroD) 4 56 Tryz.underlying31 HI.out.1 HI.out.2.1 HI.out.2.2.1 HI.out.2.2.2 rfl (by decide) _ (l.take k).length (dCells (l.take k)) (by rfl) (World.ownsRow.alloc HOp.out _) ⟨wp.heap.size, 0, none⟩ 1 1 (Dx.cells d) (by rfl) rfl (World.news_of_block (heap_alloc_new wp _)) (by have := dCells_one [d]; simpa [dCells] using this) (by omega) (by unfold maxLen; omega) (by omega) (by simp; omega) (wp.heap.size + 1) (by simp) ?_; intro gg cap w1 hown1 hgrow hat hlt2))
      have hO : OwnD w1 w.heap.size (.slice (some ⟨gg, 0, none⟩) ((l.take k).length + 1) cap) (l.take (k + 1)) := by
        rw [HT.out]
        unfold OwnD
        rw [dCells_append, List.length_append]
        simpa [dCells] using hown1
      have hB : Below w.heap.size w w1 := HBp.out.trans (((Below.refl w.heap.size wp).alloc hbp3 _).grown hgrow (by simp; omega) (own_block HOp.out))
      have HO : Hid _ := ⟨hO⟩
      have HBB : Hid _ := ⟨hB⟩
      clear hO hB hown1 hgrow
      go_wp2
      go_roundw
      case rel => exact ⟨k + 1, hlt, by go_num, ⟨by have := HO.out; rwa [htl] at this, HBB.out, fun e => by omega⟩⟩
      case measure => simp [intOf]; omega
    · obtain rfl : k = l.length := by omega
      have hO : OwnD wr w.heap.size u3 l := by have := HW.out.1; rwa [List.take_of_length_le (Nat.le_refl _)] at this
      have HO : Hid _ := ⟨hO⟩
      clear hO
      go_wp2
      go_ret
      exact ⟨_, rfl, HO.out, fun e => HW.out.2.2 (by rw [e]; rfl), HW.out.2.1⟩

/-! Defs that came in -/
theorem cellsDef : Tryz.prog.cellsOf 72 = 4 := by kernel_rfl
theorem cellsVal : Tryz.prog.cellsOf 33 = 3 := by kernel_rfl
def dDef (H : Type) (d : Dx) : DataW H := .agg [.lit (.string d.s.data.toList), .agg [.lit (.string d.v.p.data.toList), .lit (.string d.v.m.data.toList), .lit (.int .i64 d.v.n)]]
set_option maxRecDepth 10000 in
/-- One Def's cells. -/
theorem def_cells {H : Type} {enc : TypeId × Value → H} {w : World} {base : Nat} {sp : Nat → Bool} {held : Bool} {fuel : Nat} {cs : List Value} {x : DataW H × List MemPlace}
    (h : DataW.trod enc Tryz.prog w base sp held fuel 72 cs = some x) : ∃ d : Dx, cs = d.cells ∧ x.1 = dDef H d := by
  obtain ⟨xs, n, _, hx, hl, hlen, hfs⟩ := DataW.trod_struct Tryz.underlying72 h
  rw [cellsDef] at hl
  match cs, hl, xs, hlen with
  | [x0, x1, x2, x3], _, [y0, y1], _ =>
    have h0 := hfs 0 _ rfl
    have h1 := hfs 1 _ rfl
    simp [cellsTS, cellsVal] at h0 h1
    obtain ⟨s0, e0, f0, _⟩ := DataW.trod_string Tryz.underlying9 h0
    obtain ⟨ys, n2, _, hy, hl2, hlen2, hfs2⟩ := DataW.trod_struct Tryz.underlying33 h1
    match ys, hlen2 with
    | [z0, z1, z2], _ =>
      have g0 := hfs2 0 _ rfl
      have g1 := hfs2 1 _ rfl
      have g2 := hfs2 2 _ rfl
      simp [cellsTI, cellsTS] at g0 g1 g2
      obtain ⟨s1, e1, f1, _⟩ := DataW.trod_string Tryz.underlying9 g0
      obtain ⟨s2, e2, f2, _⟩ := DataW.trod_string Tryz.underlying9 g1
      obtain ⟨n3, e3, f3, _⟩ := DataW.trod_int Tryz.underlying3 g2
      simp at e0 e1 e2 e3
      refine ⟨⟨s0, ⟨s1, s2, n3⟩⟩, by rw [e0, e1, e2, e3]; rfl, ?_⟩
      rw [hx, f0, hy, f1, f2, f3]
      rfl
attribute [local go_sem] Oper.semAt_some

/-- A place and its Def. -/
abbrev PD := { x : Nat × Dx // x.2.s.size ≤ 140737488355328 }
def el (K : List Dx) (hs : ∀ d ∈ K, d.s.size ≤ 140737488355328) (i : Nat) : PD := ⟨(i, K.getD i Dx.none), by
  by_cases h : i < K.length
  · rw [getD_at _ _ h]; exact hs _ (List.getElem_mem _)
  · simp only [List.getD, List.getElem?_eq_none (Nat.le_of_not_lt h), Option.getD_none]
    show es.size ≤ _
    rw [es_size]; omega⟩
def dval (d : Dx) : Value := .agg #[.string d.s, .string d.v.p, .string d.v.m, .int .i64 d.v.n]
def pdE (x : PD) : Array Value := #[.int .i64 (x.1.1 : Int), .agg #[.string x.1.2.s, .string x.1.2.v.p, .string x.1.2.v.m, .int .i64 x.1.2.v.n]]
def upB (f : Nat → PD) (n k : Nat) : List PD := (List.range k).map fun j => f (n - 1 - j)
theorem upB_len (f : Nat → PD) (n k : Nat) : (upB f n k).length = k := by simp [upB]
theorem upB_succ (f : Nat → PD) (n k : Nat) : upB f n (k + 1) = upB f n k ++ [f (n - 1 - k)] := by simp [upB, List.range_succ]

/-- What a round that goes on keeps: what is old, and the slice's variable. -/
def KpB (n₀ Bs : Nat) (W W' : World) : Prop := Below n₀ W W' ∧ ∀ x, W.cell? ⟨Bs, 0, none⟩ = some x → W'.cell? ⟨Bs, 0, none⟩ = some x
theorem KpB.refl (n₀ Bs : Nat) (W : World) : KpB n₀ Bs W W := ⟨Below.refl _ _, fun _ h => h⟩
theorem KpB.trans {n₀ Bs : Nat} {A B C : World} (h : KpB n₀ Bs A B) (k : KpB n₀ Bs B C) : KpB n₀ Bs A C := ⟨h.1.trans k.1, fun x hx => k.2 x (h.2 x hx)⟩

theorem backward_any (w : World) (ko : Option Addr) (n kcp : Nat) : Calls Tryz.prog 129 #[.slice ko n kcp] w fun e w' => e = .returned (.func (.func 131) #[] #[.pointer (some ⟨w.heap.size, 0, none⟩)]) ∧ w' = w.alloc (.cells #[.slice ko n kcp] 31) := by
  have hmf : ∀ (fn : Fn) (first cap : Array Value) (w : World), (Instr.makeFunc fn first cap).run Tryz.prog w = .ok (.func fn first cap) w := by intros; rfl
  go_enter Tryz.func129, Tryz.ntmps129
  go_wp2
  go_ret
  exact ⟨rfl, rfl⟩

set_option maxRecDepth 100000 in
set_option maxHeartbeats 2000000 in
theorem backward1_any (n : Nat) (hn : 1 ≤ n) (l Bs n₀ b off kcp : Nat) (K : List Dx) (hs : ∀ d ∈ K, d.s.size ≤ 140737488355328) (hk : K.length ≤ 8796093022208) (hb : b < n₀) (J Jx : List PD → World → Prop)
    (hY : ∀ pre x W, J pre W → pre.length < K.length → YieldAt Fence.wide (n - 1) Tryz.prog l (pdE x) W fun e W' =>
      (e = .returned (.bool true) ∧ J (pre ++ [x]) W' ∧ KpB n₀ Bs W W') ∨ (e = .returned (.bool false) ∧ Jx (pre ++ [x]) W'))
    (W : World) (hBs : W.cell? ⟨Bs, 0, none⟩ = some (.slice (some ⟨b, off, none⟩) K.length kcp)) (hc : ∀ j, j < K.length → DefAt W b (off + j * 4) (K.getD j Dx.none)) (h0 : J [] W) :
    CallsIn Fence.wide n Tryz.prog 131 #[.func (.yield l) #[] #[], .pointer (some ⟨Bs, 0, none⟩)] W fun e W' => (∃ v, e = .returned v) ∧
      ((∃ ys, ys = upB (el K hs) K.length K.length ∧ J ys W') ∨ (∃ pre, (∃ k, k ≤ K.length ∧ pre = upB (el K hs) K.length k) ∧ Jx pre W')) := by
  have hwk : IntKind.i64.wrap ((K.length : Int) - 1) = (K.length : Int) - 1 := by rw [IntKind.wrap_i64]; omega
  refine callsIn_of_wp Tryz.func131 rfl trivial ?_ rfl
  simp only [Tryz.ntmps131, List.size_toArray, List.length_cons, List.length_nil, Nat.reduceAdd, Nat.reduceSub, Array.replicate_succ, Array.replicate_zero, List.push_toArray, List.append_toArray, List.nil_append, List.cons_append]
  gi_wp2
  gi_loopw [3] (fun i wr => ∃ m : Nat, m ≤ K.length ∧ i = .int .i64 ((m : Int) - 1) ∧ J (upB (el K hs) K.length (K.length - m)) wr ∧ KpB n₀ Bs W wr)
    (fun i _ => (intOf i + 1).toNat)
  case atStart => exact ⟨K.length, Nat.le_refl _, by go_num, by rw [Nat.sub_self]; exact h0, KpB.refl _ _ _⟩
  case round =>
    obtain ⟨m, hm, rfl, hJs, hnx⟩ := hrel
    cases m with
    | zero =>
      have h1 : ¬ (0 : Int) ≤ ((0 : Nat) : Int) - 1 := by omega
      gi_wp2
      go_end0
      exact ⟨⟨_, rfl⟩, .inl (by simpa using hJs)⟩
    | succ m =>
      have e1 : (((m + 1 : Nat) : Int) - 1) = (m : Int) := by omega
      rw [e1]
      have hz : (0 : Int) ≤ (m : Int) := by omega
      have hlt : (m : Int) < (K.length : Int) := by omega
      have hwm : IntKind.i64.wrap ((m : Int) - 1) = (m : Int) - 1 := by rw [IntKind.wrap_i64]; omega
      have hcb := hnx.2 _ hBs
      obtain ⟨d, HD⟩ : ∃ d, Hid (K.getD m Dx.none = d) := ⟨_, ⟨rfl⟩⟩
      have hdm := hc m (by omega)
      rw [HD.out] at hdm
      have d0 := (hnx.1.cell (p := ⟨b, off + m * 4, none⟩) hb).trans hdm.s
      have d1 := (hnx.1.cell (p := ⟨b, off + m * 4 + 1, none⟩) hb).trans hdm.p
      have d2 := (hnx.1.cell (p := ⟨b, off + m * 4 + 2, none⟩) hb).trans hdm.m
      have d3 := (hnx.1.cell (p := ⟨b, off + m * 4 + 3, none⟩) hb).trans hdm.n
      have hyy := hY _ (el K hs m) wr hJs (by rw [upB_len]; omega)
      have he : pdE (el K hs m) = #[.int .i64 (m : Int), .agg #[.string d.s, .string d.v.p, .string d.v.m, .int .i64 d.v.n]] := by
        unfold pdE el
        simp only
        rw [HD.out]
      rw [he] at hyy
      obtain ⟨fn, tmps, assign, body, hy, hR⟩ := hyy
      have hup : upB (el K hs) K.length (K.length - (m + 1)) ++ [el K hs m] = upB (el K hs) K.length (K.length - m) := by
        have := upB_succ (el K hs) K.length (K.length - (m + 1))
        rw [show K.length - (m + 1) + 1 = K.length - m by omega, show K.length - 1 - (K.length - (m + 1)) = m by omega] at this
        exact this.symm
      rw [hup] at hR
      clear hdm he hJs hup
      gi_wp2
      refine hR.mono ?_
      rintro e W3 (⟨rfl, hJ3, hk3⟩ | ⟨rfl, hJx3⟩)
      · gi_wp2
        go_roundw
        case rel => exact ⟨m, by omega, by go_num, hJ3, hnx.trans hk3⟩
        case measure => simp [intOf]
      · gi_wp2
        refine bodyPost_ret (results_none rfl _ _ _) rfl ?_
        exact ⟨⟨_, rfl⟩, .inr ⟨_, ⟨K.length - m, by omega, rfl⟩, hJx3⟩⟩

theorem stops_any (n : Nat) (hn : 1 ≤ n) (Bs n₀ b off kcp : Nat) (K : List Dx) (hs : ∀ d ∈ K, d.s.size ≤ 140737488355328) (hk : K.length ≤ 8796093022208) (w : World) (hBs : Bs < w.heap.size) (hn₀ : n₀ ≤ w.heap.size) (hb : b < n₀)
    (hc : w.cell? ⟨Bs, 0, none⟩ = some (.slice (some ⟨b, off, none⟩) K.length kcp)) (hd : ∀ j, j < K.length → DefAt w b (off + j * 4) (K.getD j Dx.none)) :
    SeqStopsK Fence.wide n Tryz.prog 131 #[.pointer (some ⟨Bs, 0, none⟩)] pdE (KpB n₀ Bs) (fun ys => ys = upB (el K hs) K.length K.length) (fun pre => ∃ k, k ≤ K.length ∧ pre = upB (el K hs) K.length k) K.length w := fun l J Jx W hW _ _ hY h0 =>
  backward1_any n hn l Bs n₀ b off kcp K hs hk hb J Jx hY W ((hW.cell (p := ⟨Bs, 0, none⟩) hBs).trans hc) (fun j hj => (hd j hj).turn (Turn.of_below hW (fun _ => False)) (fun e => e)) h0

/-- What was noted last. -/
def EL (pre : List PD) (t : ByteArray) (v : Value) : Prop := ∃ x : PD, pre.reverse.find? (fun x => sB x.1.2.s t) = some x ∧ v = .int .i64 (x.1.1 : Int)
theorem EL_snoc (pre : List PD) (x : PD) (t : ByteArray) (v : Value) : EL (pre ++ [x]) t v ↔ (EL pre t v ∧ ¬ t = x.1.2.s) ∨ (t = x.1.2.s ∧ v = .int .i64 (x.1.1 : Int)) := by
  unfold EL
  rw [List.reverse_append, List.reverse_singleton, List.singleton_append, List.find?_cons]
  cases h : sB x.1.2.s t with
  | true =>
    have e := (sB_iff _ _).1 h
    constructor
    · rintro ⟨y, hy, hv⟩
      simp only [Option.some.injEq] at hy
      subst hy
      exact .inr ⟨e.symm, hv⟩
    · rintro (⟨_, hn⟩ | ⟨_, hv⟩)
      · exact absurd e.symm hn
      · exact ⟨x, rfl, hv⟩
  | false =>
    have e := (sB_false _ _).1 h
    constructor
    · rintro ⟨y, hy, hv⟩
      exact .inl ⟨⟨y, hy, hv⟩, fun e2 => e e2.symm⟩
    · rintro (⟨hh, _⟩ | ⟨e2, _⟩)
      · exact hh
      · exact absurd e2.symm e
theorem upB_rev (f : Nat → PD) (n : Nat) : (upB f n n).reverse = (List.range n).map f := by
  apply List.ext_getElem
  · simp [upB]
  · intro i h1 h2
    simp [upB] at h1 h2 ⊢
    congr 1
    omega
theorem EL_all (K : List Dx) (hs : ∀ d ∈ K, d.s.size ≤ 140737488355328) (t : ByteArray) (v : Value) : EL (upB (el K hs) K.length K.length) t v ↔ plE K t v := by
  unfold EL plE
  rw [upB_rev]
  have key : ∀ i, ((List.range K.length).map (el K hs)).find? (fun x => sB x.1.2.s t) = some (el K hs i) ∧ i < K.length ↔ K.findIdx? (fun d => sB d.s t) = some i := by
    intro i
    rw [List.find?_eq_some_iff_getElem, List.findIdx?_eq_some_iff_getElem]
    constructor
    · rintro ⟨⟨h1, j, hj, he, hbef⟩, hi⟩
      simp only [List.getElem_map, List.getElem_range] at he
      have hij : j = i := congrArg (fun x : PD => x.1.1) he
      subst hij
      refine ⟨hi, ?_, fun j' hj' => ?_⟩
      · have : (el K hs j).1.2 = K[j] := getD_at _ _ hi _
        rw [this] at h1
        exact h1
      · have := hbef j' hj'
        simp only [List.getElem_map, List.getElem_range] at this
        have e : (el K hs j').1.2 = K[j']'(by omega) := getD_at _ _ (by omega) _
        rw [e] at this
        simpa using this
    · rintro ⟨hi, h1, h2⟩
      have e : (el K hs i).1.2 = K[i] := getD_at _ _ hi _
      refine ⟨⟨by rw [e]; exact h1, i, by simpa using hi, by simp, fun j' hj' => ?_⟩, hi⟩
      simp only [List.getElem_map, List.getElem_range]
      have e' : (el K hs j').1.2 = K[j']'(by omega) := getD_at _ _ (by omega) _
      rw [e']
      simpa using h2 j' hj'
  constructor
  · rintro ⟨x, hx, hv⟩
    have hm := List.mem_of_find?_eq_some hx
    simp only [List.mem_map, List.mem_range] at hm
    obtain ⟨i, hi, rfl⟩ := hm
    exact ⟨i, (key i).1 ⟨hx, hi⟩, hv⟩
  · rintro ⟨i, hi, hv⟩
    exact ⟨el K hs i, ((key i).2 hi).1, hv⟩

set_option maxRecDepth 100000 in
set_option maxHeartbeats 4000000 in
theorem firstPlaces_some (w : World) (b off kcp : Nat) (K : List Dx) (hs : ∀ d ∈ K, d.s.size ≤ 140737488355328) (hk : K.length ≤ 8796093022208) (hb : b < w.heap.size) (hd : ∀ j, j < K.length → DefAt w b (off + j * 4) (K.getD j Dx.none)) :
    Calls Tryz.prog 116 #[.slice (some ⟨b, off, none⟩) K.length kcp] w fun e w' => e = .returned (.map (some w.heap.size)) ∧ PlM w' w.heap.size K ∧ Below w.heap.size w w' := by
  have hmm : ∀ w : World, (Instr.makeMap 63 (some (.int .i64 (K.length : Int)))).run Tryz.prog w = .ok (.map (some w.heap.size)) (w.alloc (.map #[] 0)) := by intro w; kernel_rfl
  refine (callsIn_wide (n := 3)).1 ?_
  refine callsIn_of_wp_marks Tryz.func116 rfl trivial ?_ rfl
  simp only [Tryz.ntmps116, List.size_toArray, List.length_cons, List.length_nil, Nat.reduceAdd, Nat.reduceSub, Array.replicate_succ, Array.replicate_zero, List.push_toArray, List.append_toArray, List.nil_append, List.cons_append]
  gi_wp2_with (refine ⟨trivial, ?_⟩; gi_at_call 129; refine (callsIn_wide.2 (backward_any _ _ _ _)).mono ?_; rintro e w' ⟨rfl, rfl⟩)
  have hm0 := World.ownsMap_made w Tryz.prog 9 RV
  have bS := (Boxed.new (w.alloc (.map #[] 0)) 63 (.map (some w.heap.size))).alloc (.cells #[.slice (some ⟨b, off, none⟩) K.length kcp] 31)
  have bN := Boxed.new ((w.alloc (.map #[] 0)).alloc (.cells #[.map (some w.heap.size)] 63)) 31 (.slice (some ⟨b, off, none⟩) K.length kcp)
  simp only [World.size_alloc] at bS bN
  have hB0 : Below w.heap.size w (((w.alloc (.map #[] 0)).alloc (.cells #[.map (some w.heap.size)] 63)).alloc (.cells #[.slice (some ⟨b, off, none⟩) K.length kcp] 31)) := bel_alloc (bel_alloc (bel_alloc (Below.refl _ _) _) _) _
  refine wpIn_rangeFunc_ownH rfl (by omega) (gf := 131) (lb := #[.pointer (some ⟨w.heap.size + 1 + 1, 0, none⟩)]) rfl trivial (enters_of Tryz.func131 (by kernel_rfl) rfl)
    (stops_any (3 - 1) (by omega) (w.heap.size + 1 + 1) w.heap.size b off kcp K hs hk _ (by simp) (by simp; omega) hb bN.cell (fun j hj => (hd j hj).turn (Turn.of_below hB0 (fun _ => False)) (fun e => e))) KpB.trans ?hKb (Below.refl _ _) (fun _ => rfl)
    (fun pre W => (W.cell? ⟨w.heap.size + 1, 0, none⟩ = some (.map (some w.heap.size)) ∧ ∃ D, W.ownsMap Tryz.prog 9 RV w.heap.size pre.length D ∧ Inv D (EL pre)) ∧ Below w.heap.size w W)
    (fun _ _ _ => False) ?hI (fun _ _ _ _ _ hs _ _ => hs) ?h0
    (fun x a' W => ∃ Bx, w.heap.size + 1 < Bx ∧ W.cell? ⟨Bx, 0, none⟩ = some (.string x.1.2.s) ∧ a' = { tmps := #[.slice (some ⟨b, off, none⟩) K.length kcp, undef, .map none, .pointer (some ⟨w.heap.size + 1, 0, none⟩), .int .i64 (x.1.1 : Int), .pointer (some ⟨Bx, 0, none⟩), .slice (some ⟨b, off, none⟩) K.length kcp, .int .i64 (K.length : Int), .map (some w.heap.size), .slice (some ⟨b, off, none⟩) K.length kcp, .func (.func 131) #[] #[.pointer (some ⟨w.heap.size + 1 + 1, 0, none⟩)], .int .i64 (x.1.1 : Int), .agg #[.string x.1.2.s, .string x.1.2.v.p, .string x.1.2.v.m, .int .i64 x.1.2.v.n], undef, undef, undef, undef, undef], defers := [] })
    ?hAx ?assign ?body ?done ?stop
  case hKb =>
    intro W l o o' hl ho hnc hnw
    refine ⟨belowK_b (w := w) (Nat.le_refl _) W l o o' (by simp at hl; omega) ho hnc hnw, fun x hx => ?_⟩
    by_cases e : l = w.heap.size + 1 + 1
    · subst e
      simp only [World.cell?] at hx
      rw [ho] at hx
      cases o <;> simp [Obj.isCells] at hnc hx
    · exact cell_kept hx (grownBy_putObj' W l o') (fun r er => by cases er; exact ⟨_, ho, hnc⟩)
  case hI => exact OwnFrom.and (fun s A B row hs hg hr => by
      obtain ⟨h1, D, h2, h3⟩ := hs
      exact ⟨cell_kept h1 hg (fun r e => (hr r e).2), D, h2.kept hg (fun e => by have := (hr _ e.symm).1; simp at this; omega), h3⟩) (ownFrom_below (Nat.le_refl _) (by simp; omega))
  case h0 => exact ⟨⟨bS.cell, .map [], (hm0.alloc _).alloc _, Inv.none (fun t v ⟨x, hx, _⟩ => by cases hx)⟩, hB0⟩
  case hAx =>
    intro x a' s A B row hs hg hr
    obtain ⟨Bx, h1, h2, h3⟩ := hs
    exact ⟨Bx, h1, cell_kept h2 hg (fun r e => (hr r e).2), h3⟩
  case assign =>
    rintro l pre x W KK ⟨⟨hc, D, hown, hinv⟩, hB⟩ hK
    unfold pdE
    have hlt : w.heap.size + 1 < W.heap.size := World.block_lt_of_cell? W _ hc
    gi_wp2
    refine hK _ _ ((KeepsOthers.alloc _ _).from _) ⟨(Below.refl _ W).alloc hB.size _, fun y hy => up_alloc hy _⟩ ⟨⟨up_alloc hc _, D, hown.alloc _, hinv⟩, bel_alloc hB _⟩ ⟨W.heap.size, hlt, by simp, rfl⟩
  case body =>
    rintro l pre x a' W hl ⟨r, hr⟩ ⟨⟨hc, D, hown, hinv⟩, hB⟩ ⟨Bx, hBx, hd0, rfl⟩ hlt
    have hkey := WideMaps.keyOf_string_mk (P := Tryz.prog) Tryz.underlying9 (s := x.1.2.s) (by unfold maxLen; have := x.2; omega)
    gi_wp2_with (gi_at_mapUpdate; refine wpListIn_mapUpdate_own _ rfl _ _ _ 63 rfl 9 3 law9 undPl _ w.heap.size pre.length _ rfl hown (by unfold maxLen; omega) _ _ _ rfl rfl hkey _ [] rfl ?_; intro w1 hown1 hgrow1)
    obtain ⟨es', ck, hh, _⟩ := hown
    have hput : Inv (D.put (kl x.1.2.s) (.held (.int .i64 (x.1.1 : Int)))) (EL (pre ++ [x])) := hinv.put _ _ (EL_snoc pre x)
    exact ⟨KeepsFrom.of_grownBy hgrow1 (fun j e => by cases e; simp; omega), ⟨(Below.refl _ W).grown hgrow1 hB.size (fun k e => by cases e; exact Nat.le_refl _), fun y hy => cell_kept hy hgrow1 (fun r e => by cases e; exact ⟨_, hh, rfl⟩)⟩,
      ⟨cell_kept hc hgrow1 (fun r e => by cases e; exact ⟨_, hh, rfl⟩), _, by rw [List.length_append]; exact hown1, hput⟩, hB.grown hgrow1 hB.size (fun k e => by cases e; exact Nat.le_refl _)⟩
  case done =>
    rintro D ys W hD rfl ⟨⟨hc, DD, hm, hI⟩, hB⟩ hK
    gi_wp2
    refine ⟨by simp, .inl ⟨_, _, rfl, run_takeDeferred hK, ?_⟩⟩
    exact ⟨_, results_tmp rfl _ _ _, rfl, ⟨_, DD, hm.kept (grownBy_putObj' _ D _) (fun e => by cases e; simp at hD; omega), ⟨hI.m, fun t z h => (hI.snd t z h).imp fun v hv => ⟨(EL_all K hs t v).1 hv.1, hv.2⟩, fun t v h => hI.cmp t v ((EL_all K hs t v).2 h)⟩⟩, hB.trans (belowK_b (w := w) (Nat.le_refl _) W D _ _ (by simp at hD; omega) hK rfl rfl)⟩
  case stop =>
    rintro D c pre W _ _ h _
    exact h.elim

/-- firstPlaces of any Defs. -/
theorem first_any (g : Gx) (hs : ∀ d ∈ g.K, d.s.size ≤ 140737488355328) (hk : g.K.length ≤ 8796093022208) (hnil : g.K = [] → g.kv = .slice none 0 0) : FirstC g := by
  by_cases h0 : g.K = []
  · exact first_nil g (hnil h0) h0
  · intro W hW
    obtain ⟨ao, cp, e, h⟩ := hW
    obtain ⟨b, off, e1, e2, e3⟩ := h.resolve_left h0
    subst e1
    have hlen : 0 < g.K.length := List.length_pos_iff.2 h0
    have hb : b < W.heap.size := World.block_lt_of_cell? W _ (e3 0 hlen).s
    rw [e]
    refine (firstPlaces_some W b off cp g.K hs hk hb e3).mono ?_
    rintro x w' ⟨rfl, h1, h2⟩
    exact ⟨_, rfl, Nat.le_refl _, h1, h2⟩

set_option maxRecDepth 10000 in
theorem open_defs {H : Type} {enc : TypeId × Value → H} {W : World} {base : Nat} {v : Value} {d : DataW H} {p : List MemPlace} (hv : Value.okWide Tryz.prog W .any base 23 v) (h : DataW.Trod enc Tryz.prog W 0 (fun _ => true) true 23 v d p) :
    ∃ ao c l, v = .slice ao l.length c ∧ DefsIn W ao l ∧ (l = [] ∨ ∃ sp : List (DataW H), d = .slice (l.map (dDef H)) sp) := by
  obtain ⟨a0, len0, cap0, rfl⟩ := okWide_slice Tryz.underlying23 hv
  obtain ⟨fuel, hf⟩ := h
  rcases Deep.open_slice Tryz.underlying23 hf with ⟨hcs, _⟩ | ⟨a, len, cap, m, n, D, Pl, hcs, _, hl, hm, hmm, hx, hcell⟩
  · simp [Value.cells] at hcs
    obtain ⟨rfl, rfl, rfl⟩ := hcs
    exact ⟨none, 0, [], rfl, .inl rfl, .inl rfl⟩
  · simp [Value.cells] at hcs
    obtain ⟨rfl, rfl, rfl⟩ := hcs
    obtain ⟨hx1, hx2⟩ := Prod.mk.inj hx
    have hlm : len0 ≤ m := by rw [hmm]; split <;> omega
    have each : ∀ i, i < m → ∃ s : Dx, W.cells? 0 (a.add (i * 4)) 4 = some s.cells ∧ D i = dDef H s := fun i hi => by
      obtain ⟨cs', h1, h2⟩ := hcell i hi
      rw [cellsDef] at h1
      obtain ⟨s, rfl, h3⟩ := def_cells h2
      exact ⟨s, h1, h3⟩
    haveI : Inhabited Dx := ⟨Dx.none⟩
    obtain ⟨Sx, hS⟩ := Deep.choose_lt each
    refine ⟨some a, cap0, (List.range len0).map Sx, by simp, ?_, .inr ⟨(List.range (m - len0)).map fun j => D (len0 + j), ?_⟩⟩
    · by_cases h0 : len0 = 0
      · left; subst h0; rfl
      · right
        obtain ⟨b, off, spot⟩ := a
        have cellAt : ∀ i, i < m → ∀ j, j < 4 → W.cell? ((⟨b, off, spot⟩ : Addr).add (i * 4) |>.add j) = (Sx i).cells[j]? := fun i hi j hj => by
          have := (World.cells?_some (hS i hi).1)
          exact this.2.2 j hj
        have hc := cellAt 0 (by omega) 0 (by omega)
        have hspot : spot = Option.none := World.cell?_spot (v := .string (Sx 0).s) hc
        subst hspot
        refine ⟨b, off, rfl, fun i hi => ?_⟩
        have hi' : i < len0 := by simpa using hi
        have e : ((List.range len0).map Sx).getD i Dx.none = Sx i := by simp [hi']
        rw [e]
        have k := cellAt i (by omega)
        have k0 := k 0 (by omega); have k1 := k 1 (by omega); have k2 := k 2 (by omega); have k3 := k 3 (by omega)
        rw [addr_add, addr_add] at k0 k1 k2 k3
        exact ⟨k0, k1, k2, k3⟩
    · have e : (List.range len0).map D = ((List.range len0).map Sx).map (dDef H) := by
        rw [List.map_map]
        refine List.map_congr_left fun i hi => ?_
        exact (hS i (by have := List.mem_range.1 hi; omega)).2
      rw [← e]
      exact hx1

theorem evE_ex (M : Res) : ∃ p m n b er, evE M = .tuple #[.agg #[.string p, .string m, .int .i64 n], .int .i64 b, .int .i64 er] := by
  cases M with
  | error er => exact ⟨_, _, _, _, _, rfl⟩
  | ok vb => obtain ⟨v, b⟩ := vb; exact ⟨_, _, _, _, _, rfl⟩
theorem neqT (a b c : Int) (s : ByteArray) (w : World) : (binOp .neq 37 (.agg #[.int .i64 a, .int .i64 b, .int .i64 c, .string s]) (.agg #[.int .i64 a, .int .i64 b, .int .i64 c, .string s])).run Tryz.prog w = .ok (.bool false) w := by
  simp [go_sem]
/-- The state of the loop, and behind it. -/
structure LE (w : World) (ax ay : Option Addr) (L : List TL) (g h : Nat) (p m : ByteArray) (n : Int) (wr : World) : Prop where
  bel : Below w.heap.size w wr
  tx : ToksP wr ax L
  ty : ToksP wr ay L
  vg : VB wr g p m n
  vh : VB wr h p m n
theorem LE.to {w wr u : World} {ax ay : Option Addr} {L : List TL} {g h : Nat} {p m : ByteArray} {n : Int} (x : LE w ax ay L g h p m n wr) (hb : Below wr.heap.size wr u) : LE w ax ay L g h p m n u :=
  ⟨bel_trans x.bel hb, x.tx.below hb (Nat.le_refl _), x.ty.below hb (Nat.le_refl _), x.vg.bel hb x.vg.lt, x.vh.bel hb x.vh.lt⟩
theorem bel_eqE {v u : World} (h : u = v) : Below v.heap.size v u := by subst h; exact Below.refl _ _
abbrev CE (w v : World) (g h : Nat) (p m : ByteArray) (n : Int) : Prop := v.cell? ⟨g, 0, none⟩ = some (.string p) ∧ v.cell? ⟨g, 1, none⟩ = some (.string m) ∧ v.cell? ⟨g, 2, none⟩ = some (.int .i64 n) ∧ v.cell? ⟨h, 0, none⟩ = some (.string p) ∧ v.cell? ⟨h, 1, none⟩ = some (.string m) ∧ v.cell? ⟨h, 2, none⟩ = some (.int .i64 n) ∧ Hid (Below w.heap.size w v)
theorem CE.bel {w v u : World} {g h : Nat} {p m : ByteArray} {n : Int} (x : CE w v g h p m n) (hb : Below v.heap.size v u) : CE w u g h p m n :=
  ⟨to_bel hb x.1, to_bel hb x.2.1, to_bel hb x.2.2.1, to_bel hb x.2.2.2.1, to_bel hb x.2.2.2.2.1, to_bel hb x.2.2.2.2.2.1, ⟨bel_trans x.2.2.2.2.2.2.out hb⟩⟩

set_option maxHeartbeats 8000000 in
set_option maxRecDepth 20000 in
theorem exprEvals_walk (w : World) (hE : Er w) (ao : Option Addr) (c : Nat) (L : List TL) (hL : L.length ≤ 1048576) (hsm : ∀ x ∈ L, x.1.t.length ≤ 1048576) (hr : Toks w ao L) (a : Int) (ko : Option Addr) (kc : Nat) (K : List Dx) (hK : K.length ≤ 1048576) (hds : ∀ d ∈ K, d.s.size ≤ 1048576 ∧ d.v.Ok) (hdf : DefsIn w ko K) :
    Calls Tryz.prog 3 #[.slice ao L.length c, .int .i64 a, .slice ko K.length kc] w fun e w' => e = .returned (.bool true) ∧ Below w.heap.size w w' := by
  have HTok : Hid (∀ W, Below w.heap.size w W → Calls Tryz.prog 8 #[.slice ao L.length c] W fun e w' => ∃ ax cx, e = .returned (.slice ax L.length cx) ∧ ToksP w' ax L ∧ Below W.heap.size W w') := ⟨fun W h => (tokens_any ao c L W (by omega) (hr.below h (Nat.le_refl _))).mono (by
    rintro e w' ⟨v, he, ho, hb⟩
    obtain ⟨ax, cx, hv, _, _, ht, _⟩ := OwnTP.any ho
    exact ⟨ax, cx, by rw [he, hv], ht, hb⟩)⟩
  have HKn : Hid (∀ W, Below w.heap.size w W → Calls Tryz.prog 10 #[.slice ko K.length kc] W fun e w' => ∃ kx cx, e = .returned (.slice kx K.length cx) ∧ DefsIn w' kx K ∧ (K = [] → (.slice kx K.length cx : Value) = .slice none 0 0) ∧ Below W.heap.size W w') := ⟨fun W h => (known_any ko kc K W hK (hdf.below h)).mono (by
    rintro e w' ⟨v, he, ho, hn, hb⟩
    obtain ⟨kx, cx, hv, hd⟩ := ho.any
    exact ⟨kx, cx, by rw [he, hv], hd, fun e => by rw [← hv]; exact hn e, hb⟩)⟩
  obtain ⟨p, m, n, b, er, hM⟩ := evE_ex (evI K L a)
  have hsm' : ∀ x ∈ L, x.1.t.length ≤ 140737488355328 := fun x hx => by have := hsm x hx; omega
  have HEv : Hid (∀ (W : World) (ax kx : Option Addr) (cx ck : Nat), ToksP W ax L → DefsIn W kx K → (K = [] → (.slice kx K.length ck : Value) = .slice none 0 0) → Calls Tryz.prog 9 #[.slice ax L.length cx, .int .i64 a, .slice kx K.length ck] W fun e w' => e = .returned (.tuple #[.agg #[.string p, .string m, .int .i64 n], .int .i64 b, .int .i64 er]) ∧ Below W.heap.size W w') := ⟨fun W ax kx cx ck h1 h2 h3 => by
    have := xEval_any W ax kx cx ck L K a ⟨h1, h2, by omega, hsm', fun d hd => (hds d hd).2⟩ (fun rb mb => name_all _ (first_any _ (fun d hd => by have := (hds d hd).1; omega) (by dsimp only; omega) h3) (by dsimp only; omega))
    rwa [hM] at this⟩
  have HYv : Hid (∀ W, Below w.heap.size w W → Calls Tryz.prog 11 #[.slice ao L.length c, .int .i64 a, .slice ko K.length kc] W fun e w' => e = .returned (.tuple #[.agg #[.string p, .string m, .int .i64 n], .int .i64 b, .int .i64 er]) ∧ Below W.heap.size W w') := ⟨fun W h => by
    have := yEval_any W ao ko c kc L K a ⟨hr.below h (Nat.le_refl _), hdf.below h, by omega, hsm', fun d hd => (hds d hd).2⟩ (by omega)
    rwa [hM] at this⟩
  have HK2 : Hid (∀ v, Below w.heap.size w v → Calls Tryz.prog 14 #[] v fun e w' => e = .returned (.bool true) ∧ Below v.heap.size v w') := ⟨fun v h => knows_any v (hE.bel h)⟩
  have HVal : Hid _ := ⟨valY_any⟩
  have q1 : ∀ v, (binOp .eql 27 (.agg #[.string p, .string m, .int .i64 n]) (.agg #[.string p, .string m, .int .i64 n])).run Tryz.prog v = .ok (.bool true) v := fun v => by rw [eqlV]; simp
  clear hE hr hdf hds hsm hsm' hM
  go_enter Tryz.func3, Tryz.ntmps3
  go_upto_region 5 with (first
    | (have _ := HB4; go_at_call 8; refine (HTok.out _ (bel_alloc HB4.out _)).mono ?_; rintro e w5 ⟨ay, cy, he, ty, hb5⟩; subst he; have HTY : Hid _ := ⟨ty⟩; have HB5 : Hid _ := ⟨hb5⟩; clear ty hb5)
    | (go_at_call 8; refine (HTok.out _ (Below.refl _ _)).mono ?_; rintro e w1 ⟨ax, cx, he, tx, hb1⟩; subst he; have HTX : Hid _ := ⟨tx⟩; have HB1 : Hid _ := ⟨hb1⟩; clear tx hb1)
    | (go_at_call 10; refine (HKn.out _ HB1.out).mono ?_; rintro e w2 ⟨kx, ck, he, dk, hn, hb2⟩; subst he; have HDK : Hid _ := ⟨dk⟩; have HNN : Hid _ := ⟨hn⟩; have HTX2 : Hid _ := ⟨HTX.out.below hb2 (Nat.le_refl _)⟩; have HB2 : Hid (Below w.heap.size w w2) := ⟨bel_trans HB1.out hb2⟩; clear dk hn hb2)
    | (go_at_call 9; refine (HEv.out _ _ _ _ _ HTX2.out HDK.out HNN.out).mono ?_; rintro e w3 ⟨he, hb3⟩; subst he; have HTX3 : Hid _ := ⟨HTX2.out.below hb3 (Nat.le_refl _)⟩; have HB3 : Hid (Below w.heap.size w w3) := ⟨bel_trans HB2.out hb3⟩; clear hb3)
    | (go_at_call 11; refine (HYv.out _ (bel_alloc HB3.out _)).mono ?_; rintro e w4 ⟨he, hb4⟩; subst he; have HB4 : Hid (Below w.heap.size w w4) := ⟨bel_trans (bel_alloc HB3.out _) hb4⟩; have HG4 : Hid _ := ⟨(VB.new w3 p m n).bel hb4 (by simp)⟩; have HTX4 : Hid _ := ⟨(HTX3.out.below (bel_alloc (Below.refl _ _) (.cells #[.string p, .string m, .int .i64 n] 27)) (Nat.le_refl _)).below hb4 (Nat.le_refl _)⟩; clear hb4))
  have HLE : Hid (LE w ax ay L w3.heap.size w4.heap.size p m n w5) := ⟨bel_trans (bel_alloc HB4.out _) HB5.out, (HTX4.out.below (bel_alloc (Below.refl _ _) (.cells #[.string p, .string m, .int .i64 n] 33)) (Nat.le_refl _)).below HB5.out (Nat.le_refl _), HTY.out, (HG4.out.alloc _).bel HB5.out (HG4.out.alloc _).lt, (VB.atY w4 p m n w4.heap.size rfl).bel HB5.out (by simp)⟩
  clear HTX HB1 HDK HNN HTX2 HB2 HTX3 HB3 HB4 HG4 HTX4 HTY HB5 HTok HKn HEv HYv
  generalize w3.heap.size = g at *
  generalize w4.heap.size = h at *
  go_wp2
  go_loopw [15] (fun s15 wr => ∃ k : Nat, s15 = .int .i64 (k : Int) ∧ k ≤ L.length ∧ Hid (LE w ax ay L g h p m n wr)) (fun s15 wr => L.length - (intOf s15).toNat)
  case atStart => exact ⟨0, rfl, by omega, HLE⟩
  case round =>
    obtain ⟨k, rfl, hk, HR⟩ := hrel
    by_cases hlt : k < L.length
    · have h0 : (0 : Int) ≤ (k : Int) := by omega
      have h1 : (k : Int) < (L.length : Int) := by omega
      have hki : ¬ (k : Int) < 0 := by omega
      have hwk : IntKind.i64.wrap ((k : Int) + 1) = ((k + 1 : Nat) : Int) := by rw [IntKind.wrap_i64]; omega
      obtain ⟨bx, ox, e1, t1⟩ := HR.out.tx.resolve_left (fun e => by rw [e] at hlt; simp at hlt)
      obtain ⟨by', oy, e2, t2⟩ := HR.out.ty.resolve_left (fun e => by rw [e] at hlt; simp at hlt)
      subst e1 e2
      obtain ⟨x0, x1, x2, x3⟩ := t1 k hlt
      obtain ⟨y0, y1, y2, y3⟩ := t2 k hlt
      obtain ⟨tt, HTT⟩ : ∃ tt, Hid (L.getD k TL.none = tt) := ⟨_, ⟨rfl⟩⟩
      rw [HTT.out] at x0 x1 x2 x3 y0 y1 y2 y3
      have hq := neqT tt.1.k tt.2 tt.1.n (St tt.1.t)
      clear t1 t2
      go_upto_region 8 with (fail)
      go_quiet (fail)
      have HR2 : Hid _ := ⟨HR.out.to (below_drewN (Below.refl _ _) nq)⟩
      go_wp2
      go_roundw
      case rel => exact ⟨k + 1, by go_num, by omega, HR2⟩
      case measure => simp [intOf]; omega
    · obtain rfl : k = L.length := by omega
      have h1 : ¬ (L.length : Int) < (L.length : Int) := by omega
      have K0 : CE w wr.drew g h p m n := ⟨HR.out.vg.c0, HR.out.vg.c1, HR.out.vg.c2, HR.out.vh.c0, HR.out.vh.c1, HR.out.vh.c2, ⟨HR.out.bel.drew⟩⟩
      go_upto_region 10 with (fail)
      go_region_held3 (fun v => CE w v g h p m n)
        (first | (with_reducible assumption) | exact CE.bel (by with_reducible assumption) hb)
        (first
          | (go_at_call 12; (with_reducible refine (HVal.out _ _ _ _).mono ?_); rintro e wp ⟨rfl, hb⟩)
          | (go_at_call 13; refine (num_any _ _).mono ?_; rintro e wp ⟨rfl, hw'⟩; have hb := bel_eqE hw'; clear hw')
          | (go_at_call 14; refine (HK2.out _ (by have hS : CE w _ g h p m n := (by with_reducible assumption); exact hS.2.2.2.2.2.2.out)).mono ?_; rintro e wp ⟨rfl, hb⟩))
      go_wp2
      go_ret
      rename_i hS
      exact ⟨rfl, hS.2.2.2.2.2.2.out⟩

theorem bk_part {H : Type} {d : DataW H} : ∀ {l : List (DataW H)}, d ∈ l → Rows.uptoBulk d ≤ Rows.uptoBulkAll l
  | x :: r, h => by
    simp only [Rows.uptoBulkAll]
    rcases List.mem_cons.1 h with e | e
    · subst e; omega
    · have := bk_part e; omega
theorem bk_toks {H : Type} : ∀ (l : List TL), l.length ≤ Rows.uptoBulkAll (l.map (dTok H)) ∧ ∀ x ∈ l, x.1.t.length ≤ Rows.uptoBulkAll (l.map (dTok H))
  | [] => ⟨by simp, fun x hx => by cases hx⟩
  | p :: r => by
    obtain ⟨h1, h2⟩ := bk_toks (H := H) r
    simp only [List.map_cons, Rows.uptoBulkAll, List.length_cons, dTok, Rows.uptoBulk]
    refine ⟨by omega, fun x hx => ?_⟩
    rcases List.mem_cons.1 hx with rfl | hx
    · omega
    · have := h2 x hx
      omega
theorem bk_tk {H : Type} {ds : List (DataW H)} (hk : Rows.uptoSmall H ds = true) {d : DataW H} (hd : d ∈ ds) {l : List TL} (e : l = [] ∨ ∃ sp : List (DataW H), d = .slice (l.map (dTok H)) sp) : l.length ≤ 1048576 ∧ ∀ x ∈ l, x.1.t.length ≤ 1048576 := by
  have h1 : Rows.uptoBulkAll ds ≤ 1048576 := of_decide_eq_true hk
  have h2 := bk_part hd
  rcases e with rfl | ⟨sp, rfl⟩
  · exact ⟨by simp, fun p hp => (by cases hp)⟩
  · simp only [Rows.uptoBulk] at h2
    obtain ⟨h3, h4⟩ := bk_toks (H := H) l
    exact ⟨by omega, fun x hx => by have := h4 x hx; omega⟩
theorem bk_dlist {H : Type} : ∀ (l : List Dx), l.length ≤ Rows.uptoBulkAll (l.map (dDef H)) ∧ ∀ x ∈ l, x.s.size ≤ Rows.uptoBulkAll (l.map (dDef H)) ∧ x.v.p.size ≤ Rows.uptoBulkAll (l.map (dDef H)) ∧ x.v.m.size ≤ Rows.uptoBulkAll (l.map (dDef H))
  | [] => ⟨by simp, fun x hx => by cases hx⟩
  | p :: r => by
    obtain ⟨h1, h2⟩ := bk_dlist (H := H) r
    have e1 : p.s.data.toList.length = p.s.size := by simp
    have e2 : p.v.p.data.toList.length = p.v.p.size := by simp
    have e3 : p.v.m.data.toList.length = p.v.m.size := by simp
    simp only [List.map_cons, Rows.uptoBulkAll, List.length_cons, dDef, Rows.uptoBulk, e1, e2, e3]
    refine ⟨by omega, fun x hx => ?_⟩
    rcases List.mem_cons.1 hx with rfl | hx
    · refine ⟨?_, ?_, ?_⟩ <;> omega
    · obtain ⟨g1, g2, g3⟩ := h2 x hx
      refine ⟨?_, ?_, ?_⟩ <;> omega
theorem bk_defs {H : Type} {ds : List (DataW H)} (hk : Rows.uptoSmall H ds = true) {d : DataW H} (hd : d ∈ ds) {l : List Dx} (e : l = [] ∨ ∃ sp : List (DataW H), d = .slice (l.map (dDef H)) sp) : l.length ≤ 1048576 ∧ ∀ x ∈ l, x.s.size ≤ 1048576 ∧ x.v.Ok := by
  have h1 : Rows.uptoBulkAll ds ≤ 1048576 := of_decide_eq_true hk
  have h2 := bk_part hd
  rcases e with rfl | ⟨sp, rfl⟩
  · exact ⟨by simp, fun p hp => (by cases hp)⟩
  · simp only [Rows.uptoBulk] at h2
    obtain ⟨h3, h4⟩ := bk_dlist (H := H) l
    refine ⟨by omega, fun x hx => ?_⟩
    obtain ⟨g1, g2, g3⟩ := h4 x hx
    exact ⟨by omega, ⟨by omega, by omega⟩⟩
end Go.Proofs.YtljmbgflcidokaaGreatDoor
