/- The reader of an expression: what lies in memory; peek, next, isSign. -/
import Derived.Test.YtljmbgflcidokaaGreatDoorXTwo
import Derived.Test.YtljmbgflcidokaaGreatDoorLxTokP
import Derived.Test.YtljmbgflcidokaaGreatDoorQxT
import Derived.Deep.QuietTactic
import Derived.BigQuiet
namespace Go.Proofs.YtljmbgflcidokaaGreatDoor
open Go.ChangeShapes Go.WideShapes Go.ChangeAt Go.RowKit Go.Maps
set_option linter.unusedVariables false
set_option linter.unusedSimpArgs false

/-- What a reader stands on. -/
structure Gx where
  rb : Nat
  ao : Option Addr
  cp : Nat
  L : List TL
  kv : Value
  K : List Dx
  mb : Nat

/-- The steps of an expression, the tightest first: what goes through them. -/
def stepF (rb : Nat) : Nat → Value
  | 0 => .func (.func 36) #[.pointer (some ⟨rb, 0, none⟩)] #[]
  | i + 1 => .func (.func 63) #[] #[.pointer (some ⟨rb + 3 + 3 * i, 0, none⟩), .pointer (some ⟨rb + 1 + 3 * i, 0, none⟩), .pointer (some ⟨rb + 2 + 3 * i, 0, none⟩)]
/-- The steps' variables. -/
structure StepAt (w : World) (rb i : Nat) : Prop where
  r : w.cell? ⟨rb + 1 + 3 * i, 0, none⟩ = some (.pointer (some ⟨rb, 0, none⟩))
  l : w.cell? ⟨rb + 2 + 3 * i, 0, none⟩ = some (.int .i64 (i : Int))
  t : w.cell? ⟨rb + 3 + 3 * i, 0, none⟩ = some (stepF rb i)
theorem StepAt.turn {w w' : World} {rb i : Nat} (h : StepAt w rb i) {S : Nat → Prop} (ht : Turn S w w') (hS : ∀ k, S k → k ≤ rb ∨ rb + 3 + 3 * i < k) : StepAt w' rb i := by
  have hlt := World.block_lt_of_cell? w _ h.t
  simp only at hlt
  have e : ∀ b, rb < b → b ≤ rb + 3 + 3 * i → w'.cell? ⟨b, 0, none⟩ = w.cell? ⟨b, 0, none⟩ := fun b h1 h2 => World.cell?_of_block (ht.block b (by omega) (fun x => by have := hS b x; omega))
  exact ⟨(e _ (by omega) (by omega)).trans h.r, (e _ (by omega) (by omega)).trans h.l, (e _ (by omega) (by omega)).trans h.t⟩

/-- A Def lies in memory. -/
structure DefAt (w : World) (b o : Nat) (d : Dx) : Prop where
  s : w.cell? ⟨b, o, none⟩ = some (.string d.s)
  p : w.cell? ⟨b, o + 1, none⟩ = some (.string d.v.p)
  m : w.cell? ⟨b, o + 2, none⟩ = some (.string d.v.m)
  n : w.cell? ⟨b, o + 3, none⟩ = some (.int .i64 d.v.n)
def Dx.none : Dx := ⟨es, Vx.zero⟩
/-- Defs lie in memory, apart from the reader. -/
def Defs (w : World) (rb : Nat) (kv : Value) (K : List Dx) : Prop :=
  ∃ ao cp, kv = .slice ao K.length cp ∧ (K = [] ∨ ∃ b off, ao = some ⟨b, off, none⟩ ∧ ¬ b = rb ∧ ∀ i, i < K.length → DefAt w b (off + i * 4) (K.getD i Dx.none))
/-- Where the first Def of a name stands. -/
def plE (K : List Dx) (t : ByteArray) (v : Value) : Prop := ∃ i, K.findIdx? (fun d => sB d.s t) = some i ∧ v = .int .i64 (i : Int)
/-- The places of all Defs, if they were noted. -/
def PlOk (w : World) (rb : Nat) (K : List Dx) (pv : Value) : Prop :=
  pv = .map Option.none ∨ ∃ pb n D, pv = .map (some pb) ∧ ¬ pb = rb ∧ w.ownsMap Tryz.prog 9 RV pb n D ∧ Inv D (plE K)

/-- A reader lies in memory: its place, how deep it is, how many names were asked for. -/
structure RX (g : Gx) (w : World) (a dep ask : Nat) (pv : Value) : Prop where
  c0 : w.cell? ⟨g.rb, 0, none⟩ = some (.slice g.ao g.L.length g.cp)
  c1 : w.cell? ⟨g.rb, 1, none⟩ = some (.int .i64 a)
  c2 : w.cell? ⟨g.rb, 2, none⟩ = some (.int .i64 dep)
  c3 : w.cell? ⟨g.rb, 3, none⟩ = some g.kv
  c4 : w.cell? ⟨g.rb, 4, none⟩ = some (.int .i64 ask)
  c5 : w.cell? ⟨g.rb, 5, none⟩ = some pv
  c6 : w.cell? ⟨g.rb, 6, none⟩ = some (.map (some g.mb))
  c7 : w.cell? ⟨g.rb, 7, none⟩ = some (stepF g.rb 3)
  fz : ∀ j, w.frozen? ⟨g.rb, j, none⟩ = false
  tk : g.L = [] ∨ ∃ b off, g.ao = some ⟨b, off, none⟩ ∧ ¬ b = g.rb ∧ ∀ i, i < g.L.length → TokAt w b (off + i * 4) (g.L.getD i TL.none)
  st : ∀ i, i < 3 → StepAt w g.rb i
  op : OpM w g.mb
  mlt : g.mb + 8 ≤ g.rb
  df : Defs w g.rb g.kv g.K
  pl : PlOk w g.rb g.K pv
  ak : ask ≤ a
  hl : g.L.length ≤ 8796093022208
  ot : ∀ p ∈ g.L, p.1.t.length ≤ 140737488355328
  ok : ∀ d ∈ g.K, d.v.Ok
/-- Nothing but the reader has turned. -/
abbrev TX (rb : Nat) (w w' : World) : Prop := Turn (fun k => k = rb) w w'

section
variable {g : Gx} {w w' : World} {a dep ask : Nat} {pv : Value}
theorem RX.lt (h : RX g w a dep ask pv) : g.rb < w.heap.size := World.block_lt_of_cell? w ⟨g.rb, 0, none⟩ h.c0
theorem DefAt.turn {b o : Nat} {d : Dx} (h : DefAt w b o d) {S : Nat → Prop} (ht : Turn S w w') (hS : ¬ S b) : DefAt w' b o d := by
  have e : ∀ o, w'.cell? ⟨b, o, none⟩ = w.cell? ⟨b, o, none⟩ := fun o => World.cell?_of_block (ht.block b (World.block_lt_of_cell? w _ h.s) hS)
  exact ⟨(e _).trans h.s, (e _).trans h.p, (e _).trans h.m, (e _).trans h.n⟩
theorem TokAt.turn {b o : Nat} {d : TL} (h : TokAt w b o d) {S : Nat → Prop} (ht : Turn S w w') (hS : ¬ S b) : TokAt w' b o d := by
  have e : ∀ o, w'.cell? ⟨b, o, none⟩ = w.cell? ⟨b, o, none⟩ := fun o => World.cell?_of_block (ht.block b (World.block_lt_of_cell? w _ h.k) hS)
  exact ⟨(e _).trans h.k, (e _).trans h.l, (e _).trans h.n, (e _).trans h.t⟩
theorem own_turn {b n : Nat} {D : DataW Value} (h : w.ownsMap Tryz.prog 9 RV b n D) {S : Nat → Prop} (ht : Turn S w w') (hS : ¬ S b) : w'.ownsMap Tryz.prog 9 RV b n D := by
  obtain ⟨es, clock, hb, r⟩ := h
  exact ⟨es, clock, (ht.block b (Array.getElem?_eq_some_iff.1 hb).1 hS).trans hb, r⟩
theorem Defs.turn {rb : Nat} {kv : Value} {K : List Dx} (h : Defs w rb kv K) (ht : TX rb w w') : Defs w' rb kv K := by
  obtain ⟨ao, cp, e, h⟩ := h
  refine ⟨ao, cp, e, h.imp id ?_⟩
  rintro ⟨b, off, e1, e2, e3⟩
  exact ⟨b, off, e1, e2, fun i hi => (e3 i hi).turn ht e2⟩
theorem PlOk.turn {rb : Nat} {K : List Dx} (h : PlOk w rb K pv) (ht : TX rb w w') : PlOk w' rb K pv := by
  refine h.imp id ?_
  rintro ⟨pb, n, D, e1, e2, e3, e4⟩
  exact ⟨pb, n, D, e1, e2, own_turn e3 ht e2, e4⟩
/-- What lies apart from the reader stays. -/
theorem RX.move (h : RX g w a dep ask pv) (ht : TX g.rb w w') {a' dep' ask' : Nat} {pv' : Value} (c1 : w'.cell? ⟨g.rb, 1, none⟩ = some (.int .i64 a')) (c2 : w'.cell? ⟨g.rb, 2, none⟩ = some (.int .i64 dep')) (c4 : w'.cell? ⟨g.rb, 4, none⟩ = some (.int .i64 ask')) (c5 : w'.cell? ⟨g.rb, 5, none⟩ = some pv')
    (c0 : w'.cell? ⟨g.rb, 0, none⟩ = w.cell? ⟨g.rb, 0, none⟩) (c3 : w'.cell? ⟨g.rb, 3, none⟩ = w.cell? ⟨g.rb, 3, none⟩) (c6 : w'.cell? ⟨g.rb, 6, none⟩ = w.cell? ⟨g.rb, 6, none⟩) (c7 : w'.cell? ⟨g.rb, 7, none⟩ = w.cell? ⟨g.rb, 7, none⟩)
    (fz : ∀ j, w'.frozen? ⟨g.rb, j, none⟩ = false) (ak : ask' ≤ a') (pl : PlOk w' g.rb g.K pv') : RX g w' a' dep' ask' pv' := by
  refine ⟨c0.trans h.c0, c1, c2, c3.trans h.c3, c4, c5, c6.trans h.c6, c7.trans h.c7, fz, h.tk.imp id ?_, fun i hi => (h.st i hi).turn ht (fun k e => .inl (by omega)), h.op.turn ht (fun k e => by have := h.mlt; omega), h.mlt, h.df.turn ht, pl, ak, h.hl, h.ot, h.ok⟩
  rintro ⟨b, off, e1, e2, e3⟩
  exact ⟨b, off, e1, e2, fun i hi => (e3 i hi).turn ht e2⟩
theorem RX.bel (h : RX g w a dep ask pv) (hb : Below w.heap.size w w') : RX g w' a dep ask pv := by
  have ht : TX g.rb w w' := Turn.of_below hb _
  have e : ∀ o, w'.cell? ⟨g.rb, o, none⟩ = w.cell? ⟨g.rb, o, none⟩ := fun o => hb.cell (p := ⟨g.rb, o, none⟩) h.lt
  have e2 : ∀ o, w'.frozen? ⟨g.rb, o, none⟩ = w.frozen? ⟨g.rb, o, none⟩ := fun o => World.frozen?_of_block (w := w) (hb.block g.rb h.lt)
  exact h.move ht ((e _).trans h.c1) ((e _).trans h.c2) ((e _).trans h.c4) ((e _).trans h.c5) (e _) (e _) (e _) (e _) (fun j => (e2 j).trans (h.fz j)) h.ak (h.pl.turn ht)
theorem RX.alloc (h : RX g w a dep ask pv) (o : Obj) : RX g (w.alloc o) a dep ask pv := h.bel (bel_alloc (Below.refl _ _) o)
theorem RX.drew (h : RX g w a dep ask pv) : RX g w.drew a dep ask pv := h.bel (Below.refl _ _).drew
theorem own_no_cell {b n : Nat} {D : DataW Value} (h : w.ownsMap Tryz.prog 9 RV b n D) (o : Nat) : w.cell? ⟨b, o, none⟩ = none := by
  obtain ⟨es, clock, hb, r⟩ := h
  simp only [World.cell?]
  rw [hb]
/-- Other blocks are written: such as are newer than a world in which the reader lay, and no maps. -/
theorem RX.turnB (h : RX g w a dep ask pv) {w0 : World} {a0 dep0 ask0 : Nat} {pv0 : Value} (h0 : RX g w0 a0 dep0 ask0 pv0) {S : Nat → Prop} (ht : Turn S w w') (hS : ∀ k, S k → w0.heap.size ≤ k ∧ ¬ w.cell? ⟨k, 0, none⟩ = none) : RX g w' a dep ask pv := by
  have hrb : ¬ S g.rb := fun e => by have := (hS _ e).1; have := h0.lt; omega
  have hlt := h0.lt
  have hml := h.mlt
  have e : ∀ o, w'.cell? ⟨g.rb, o, none⟩ = w.cell? ⟨g.rb, o, none⟩ := fun o => World.cell?_of_block (ht.block g.rb h.lt hrb)
  have e2 : ∀ o, w'.frozen? ⟨g.rb, o, none⟩ = w.frozen? ⟨g.rb, o, none⟩ := fun o => World.frozen?_of_block (w := w) (ht.block g.rb h.lt hrb)
  refine ⟨(e _).trans h.c0, (e _).trans h.c1, (e _).trans h.c2, (e _).trans h.c3, (e _).trans h.c4, (e _).trans h.c5, (e _).trans h.c6, (e _).trans h.c7, fun j => (e2 j).trans (h.fz j), ?_, (fun i hi => (h.st i hi).turn ht (fun k x => .inr (by have := (hS k x).1; have := World.block_lt_of_cell? w0 _ (h0.st i hi).t; simp only at this; omega))), h.op.turn ht (fun k x => by have := (hS k x).1; omega), h.mlt, ?_, ?_, h.ak, h.hl, h.ot, h.ok⟩
  · rcases h.tk with h1 | ⟨b, off, e1, e2, e3⟩
    · exact .inl h1
    · rcases h0.tk with h1 | ⟨b', off', e1', e2', e3'⟩
      · exact .inl h1
      · rw [e1] at e1'
        injection e1' with q
        injection q with q1 q2
        subst q1 q2
        by_cases hz : g.L.length = 0
        · exact .inl (List.eq_nil_of_length_eq_zero hz)
        · have hb : b < w0.heap.size := World.block_lt_of_cell? w0 _ (e3' 0 (by omega)).k
          exact .inr ⟨b, off, e1, e2, fun i hi => (e3 i hi).turn ht (fun x => by have := (hS b x).1; omega)⟩
  · obtain ⟨ao, cp, e0, h1⟩ := h.df
    obtain ⟨ao', cp', e0', h1'⟩ := h0.df
    refine ⟨ao, cp, e0, ?_⟩
    rcases h1 with h1 | ⟨b, off, e1, e2, e3⟩
    · exact .inl h1
    · rcases h1' with h1 | ⟨b', off', e1', e2', e3'⟩
      · exact .inl h1
      · rw [e0] at e0'
        injection e0' with q0 q1 q2
        subst q0
        rw [e1] at e1'
        injection e1' with q
        injection q with q1 q2
        subst q1 q2
        by_cases hz : g.K.length = 0
        · exact .inl (List.eq_nil_of_length_eq_zero hz)
        · have hb : b < w0.heap.size := World.block_lt_of_cell? w0 _ (e3' 0 (by omega)).s
          exact .inr ⟨b, off, e1, e2, fun i hi => (e3 i hi).turn ht (fun x => by have := (hS b x).1; omega)⟩
  · rcases h.pl with h1 | ⟨pb, n, D, e1, e2, e3, e4⟩
    · exact .inl h1
    · exact .inr ⟨pb, n, D, e1, e2, own_turn e3 ht (fun x => (hS pb x).2 (own_no_cell e3 0)), e4⟩
theorem RX.setB (h : RX g w a dep ask pv) {w0 : World} {a0 dep0 ask0 : Nat} {pv0 : Value} (h0 : RX g w0 a0 dep0 ask0 pv0) (B : Nat) (hB : w0.heap.size ≤ B) {x : Value} (hc : w.cell? ⟨B, 0, none⟩ = some x) (o : Nat) (u : Value) : RX g (w.setCell ⟨B, o, none⟩ u) a dep ask pv :=
  h.turnB h0 (Turn.setCell (S := fun k => k = B) (Turn.refl _ w) ⟨B, o, none⟩ rfl u) (fun k e => by subst e; exact ⟨hB, by rw [hc]; simp⟩)
theorem cell_there {b o k : Nat} {u x : Value} (h : w.cell? ⟨b, 0, none⟩ = some x) : ∃ y, (w.setCell ⟨k, o, none⟩ u).cell? ⟨b, 0, none⟩ = some y := by
  by_cases e : (⟨k, o, none⟩ : Addr) = ⟨b, 0, none⟩
  · rw [← e] at h ⊢
    exact ⟨u, by simp [go_sem, h]⟩
  · exact ⟨x, by rw [World.cell?_setCell_other _ _ _ _ e]; exact h⟩
theorem RX.set3 (h : RX g w a dep ask pv) {w0 : World} {a0 dep0 ask0 : Nat} {pv0 : Value} (h0 : RX g w0 a0 dep0 ask0 pv0) (B : Nat) (hB : w0.heap.size ≤ B) {x : Value} (hc : w.cell? ⟨B, 0, none⟩ = some x) (u v z : Value) : RX g (((w.setCell ⟨B, 0, none⟩ u).setCell ⟨B, 1, none⟩ v).setCell ⟨B, 2, none⟩ z) a dep ask pv := by
  obtain ⟨y, hy⟩ := cell_there (o := 0) (k := B) (u := u) hc
  obtain ⟨y', hy'⟩ := cell_there (o := 1) (k := B) (u := v) hy
  exact ((h.setB h0 B hB hc 0 u).setB h0 B hB hy 1 v).setB h0 B hB hy' 2 z
theorem RX.set4 (h : RX g w a dep ask pv) {w0 : World} {a0 dep0 ask0 : Nat} {pv0 : Value} (h0 : RX g w0 a0 dep0 ask0 pv0) (B : Nat) (hB : w0.heap.size ≤ B) {x : Value} (hc : w.cell? ⟨B, 0, none⟩ = some x) (u v z t : Value) : RX g (set4 w B u v z t) a dep ask pv := by
  obtain ⟨y, hy⟩ := cell_there (o := 0) (k := B) (u := u) hc
  obtain ⟨y', hy'⟩ := cell_there (o := 1) (k := B) (u := v) hy
  obtain ⟨y2, hy2⟩ := cell_there (o := 2) (k := B) (u := z) hy'
  exact (((h.setB h0 B hB hc 0 u).setB h0 B hB hy 1 v).setB h0 B hB hy' 2 z).setB h0 B hB hy2 3 t
theorem TX.set3 {rb B : Nat} (h : TX rb w w') (hB : w.heap.size ≤ B) (u v z : Value) : TX rb w (((w'.setCell ⟨B, 0, none⟩ u).setCell ⟨B, 1, none⟩ v).setCell ⟨B, 2, none⟩ z) :=
  Turn.setNew (Turn.setNew (Turn.setNew h ⟨B, 0, none⟩ hB u) ⟨B, 1, none⟩ hB v) ⟨B, 2, none⟩ hB z
theorem TX.set4 {rb B : Nat} (h : TX rb w w') (hB : w.heap.size ≤ B) (u v z t : Value) : TX rb w (Go.Proofs.YtljmbgflcidokaaGreatDoor.set4 w' B u v z t) :=
  Turn.setNew (Turn.setNew (Turn.setNew (Turn.setNew h ⟨B, 0, none⟩ hB u) ⟨B, 1, none⟩ hB v) ⟨B, 2, none⟩ hB z) ⟨B, 3, none⟩ hB t
theorem RX.setAt (h : RX g w a dep ask pv) (a' : Nat) (v : Int) (hv : v = (a' : Int)) (hk : ask ≤ a') : RX g (w.setCell ⟨g.rb, 1, none⟩ (.int .i64 v)) a' dep ask pv := by
  subst hv
  have ht : TX g.rb w (w.setCell ⟨g.rb, 1, none⟩ (.int .i64 a')) := Turn.setCell (S := fun k => k = g.rb) (Turn.refl _ w) ⟨g.rb, 1, none⟩ rfl _
  refine h.move ht ?_ ?_ ?_ ?_ ?_ ?_ ?_ ?_ (fun j => (World.frozen?_setCell _ _ _ _).trans (h.fz j)) hk (h.pl.turn ht)
  · simp [go_sem, h.c1]
  · simp [go_sem, h.c2]
  · simp [go_sem, h.c4]
  · simp [go_sem, h.c5]
  · simp [go_sem]
  · simp [go_sem]
  · simp [go_sem]
  · simp [go_sem]
theorem RX.setDep (h : RX g w a dep ask pv) (d' : Nat) (v : Int) (hv : v = (d' : Int)) : RX g (w.setCell ⟨g.rb, 2, none⟩ (.int .i64 v)) a d' ask pv := by
  subst hv
  have ht : TX g.rb w (w.setCell ⟨g.rb, 2, none⟩ (.int .i64 d')) := Turn.setCell (S := fun k => k = g.rb) (Turn.refl _ w) ⟨g.rb, 2, none⟩ rfl _
  refine h.move ht ?_ ?_ ?_ ?_ ?_ ?_ ?_ ?_ (fun j => (World.frozen?_setCell _ _ _ _).trans (h.fz j)) h.ak (h.pl.turn ht)
  · simp [go_sem, h.c1]
  · simp [go_sem, h.c2]
  · simp [go_sem, h.c4]
  · simp [go_sem, h.c5]
  · simp [go_sem]
  · simp [go_sem]
  · simp [go_sem]
  · simp [go_sem]
theorem TX.set {rb : Nat} (h : TX rb w w') (o : Nat) (u : Value) : TX rb w (w'.setCell ⟨rb, o, none⟩ u) := Turn.setCell (S := fun k => k = rb) h ⟨rb, o, none⟩ rfl u
theorem TX.bel {rb : Nat} {u : World} (h : TX rb w w') (hb : Below w'.heap.size w' u) : TX rb w u := h.trans (Turn.of_below hb _)

/-- A token, as a value. -/
abbrev tokV (p : TL) : Value := .agg #[.int .i64 p.1.k, .int .i64 p.2, .int .i64 p.1.n, .string (St p.1.t)]
theorem resT_peek (tmps : Array Value) (W : World) (g : Nat) (a b c d : Value) (hp : tmps.getD 2 undef = .pointer (some ⟨g, 0, none⟩)) (c0 : W.cell? ⟨g, 0, none⟩ = some a) (c1 : W.cell? ⟨g, 1, none⟩ = some b) (c2 : W.cell? ⟨g, 2, none⟩ = some c) (c3 : W.cell? ⟨g, 3, none⟩ = some d) :
    (results Tryz.f83 tmps).run Tryz.prog W = .ok (.agg #[a, b, c, d]) W := by
  have hp' : tmps[2]?.getD undef = .pointer (some ⟨g, 0, none⟩) := by simpa using hp
  simp [results, Tryz.results83, hp', asAddr, loadVar, isAgg, run_underlying Tryz.underlying37, go_sem, c0, c1, c2, c3]
theorem resT_next (tmps : Array Value) (W : World) (g : Nat) (a b c d : Value) (hp : tmps.getD 2 undef = .pointer (some ⟨g, 0, none⟩)) (c0 : W.cell? ⟨g, 0, none⟩ = some a) (c1 : W.cell? ⟨g, 1, none⟩ = some b) (c2 : W.cell? ⟨g, 2, none⟩ = some c) (c3 : W.cell? ⟨g, 3, none⟩ = some d) :
    (results Tryz.f84 tmps).run Tryz.prog W = .ok (.agg #[a, b, c, d]) W := by
  have hp' : tmps[2]?.getD undef = .pointer (some ⟨g, 0, none⟩) := by simpa using hp
  simp [results, Tryz.results84, hp', asAddr, loadVar, isAgg, run_underlying Tryz.underlying37, go_sem, c0, c1, c2, c3]

set_option maxHeartbeats 1000000 in
theorem xpeek_any (h : RX g w a dep ask pv) : Calls Tryz.prog 83 #[.pointer (some ⟨g.rb, 0, none⟩)] w fun e w' => e = .returned (tokV (g.L.getD a TL.none)) ∧ Below w.heap.size w w' := by
  have h1 := h.alloc (.cells #[.int .i64 0, .int .i64 0, .int .i64 0, .string ⟨#[]⟩] 37)
  have c0 := h1.c0
  have c1 := h1.c1
  have hrb : ¬ g.rb = w.heap.size := by have := h.lt; omega
  by_cases hlt : a < g.L.length
  · have hi : (a : Int) < (g.L.length : Int) := by omega
    have h0 : (0 : Int) ≤ (a : Int) := by omega
    obtain ⟨b, off, hao, hbr, hat⟩ := h1.tk.resolve_left (fun e => by rw [e] at hlt; simp at hlt)
    obtain ⟨t0, t1, t2, t3⟩ := hat a hlt
    have hbw : ¬ b = w.heap.size := by
      obtain ⟨b', off', hao', _, hat'⟩ := h.tk.resolve_left (fun e => by rw [e] at hlt; simp at hlt)
      rw [hao] at hao'
      injection hao' with e
      injection e with e1 e2
      subst e1
      have := World.block_lt_of_cell? w _ (hat' a hlt).k
      simp only at this
      omega
    rw [hao] at c0
    generalize g.L.getD a TL.none = p at *
    generalize g.L.length = len at *
    clear h h1 hat hao
    go_enter Tryz.func83, Tryz.ntmps83
    have T0 : TBP ((w.alloc tokZP)) w.heap.size := TBP.new w
    go_wp2
    go_quiet (fail)
    go_wp2
    have B1 : Below w.heap.size w ((w.alloc tokZP).drewN nq) := below_drewN (bel_alloc (Below.refl _ _) _) nq
    have T1 : TBP ((w.alloc tokZP).drewN nq).drew w.heap.size := T0.turn (((Turn.refl (fun k => k = w.heap.size + 1) _).drewN nq).trans (Turn.of_below (Below.refl _ _).drew _)) (by omega)
    have d0 : ((w.alloc tokZP).drewN nq).drew.cell? ⟨g.rb, 0, none⟩ = _ := c0
    have d1 : ((w.alloc tokZP).drewN nq).drew.cell? ⟨g.rb, 1, none⟩ = _ := c1
    have u0 : ((w.alloc tokZP).drewN nq).drew.cell? ⟨b, off + a * 4, none⟩ = _ := t0
    have u1 : ((w.alloc tokZP).drewN nq).drew.cell? ⟨b, off + a * 4 + 1, none⟩ = _ := t1
    have u2 : ((w.alloc tokZP).drewN nq).drew.cell? ⟨b, off + a * 4 + 2, none⟩ = _ := t2
    have u3 : ((w.alloc tokZP).drewN nq).drew.cell? ⟨b, off + a * 4 + 3, none⟩ = _ := t3
    clear c0 c1 t0 t1 t2 t3 T0
    generalize (w.alloc tokZP).drewN nq = v at *
    obtain ⟨r0, r1, r2, r3, r4⟩ := id T1
    have k0 : v.cell? ⟨g.rb, 0, none⟩ = _ := d0
    have k1 : v.cell? ⟨g.rb, 1, none⟩ = _ := d1
    have m0 : v.cell? ⟨b, off + a * 4, none⟩ = _ := u0
    have m1 : v.cell? ⟨b, off + a * 4 + 1, none⟩ = _ := u1
    have m2 : v.cell? ⟨b, off + a * 4 + 2, none⟩ = _ := u2
    have m3 : v.cell? ⟨b, off + a * 4 + 3, none⟩ = _ := u3
    have T2 : TBP v w.heap.size := ⟨r0, r1, r2, r3, r4⟩
    obtain ⟨y0, y1, y2, y3, y4⟩ := id T2
    go_region_held3 (fun u => u.cell? ⟨g.rb, 0, none⟩ = some (.slice (some ⟨b, off, none⟩) len g.cp) ∧ u.cell? ⟨g.rb, 1, none⟩ = some (.int .i64 a) ∧ u.cell? ⟨b, off + a * 4, none⟩ = some (.int .i64 p.1.k) ∧ u.cell? ⟨b, off + a * 4 + 1, none⟩ = some (.int .i64 p.2) ∧ u.cell? ⟨b, off + a * 4 + 2, none⟩ = some (.int .i64 p.1.n) ∧ u.cell? ⟨b, off + a * 4 + 3, none⟩ = some (.string (St p.1.t)))
      ((refine ⟨?_, ?_, ?_, ?_, ?_, ?_⟩) <;> (repeat (first | (with_reducible assumption) | (with_reducible refine up_drew ?_) | ((with_reducible refine up_set ?_ ?_); rotate_left; (first | exact hrb | exact hbw)))))
      (fail)
    go_wp2
    obtain ⟨s0, s1, s2, s3⟩ := T1.cells (.int .i64 p.1.k) (.int .i64 p.2) (.int .i64 p.1.n) (.string (St p.1.t))
    refine bodyPost_ret (resT_peek _ _ w.heap.size _ _ _ _ rfl s0 s1 s2 s3) rfl ⟨rfl, ?_⟩
    exact (((B1.drew.setCell (Nat.le_refl _) _).setCell (Nat.le_refl _) _).setCell (Nat.le_refl _) _).setCell (Nat.le_refl _) _
  · have hi : ¬ (a : Int) < (g.L.length : Int) := by omega
    have e : g.L.getD a TL.none = TL.none := by simp [List.getD, List.getElem?_eq_none (Nat.le_of_not_lt hlt)]
    rw [e]
    generalize g.L.length = len at *
    clear h h1 e
    go_enter Tryz.func83, Tryz.ntmps83
    go_wp2
    go_quiet (fail)
    go_wp2
    have T1 : TBP ((w.alloc tokZP).drewN nq) w.heap.size := (TBP.new w).turn ((Turn.refl (fun k => k = w.heap.size + 1) _).drewN nq) (by omega)
    have B1 : Below w.heap.size w ((w.alloc tokZP).drewN nq) := below_drewN (bel_alloc (Below.refl _ _) _) nq
    generalize (w.alloc tokZP).drewN nq = v at *
    obtain ⟨s0, s1, s2, s3⟩ := T1.cells (.int .i64 0) (.int .i64 0) (.int .i64 0) (.string ⟨#[]⟩)
    refine bodyPost_ret (resT_peek _ _ w.heap.size _ _ _ _ rfl s0 s1 s2 s3) rfl ⟨rfl, ?_⟩
    exact (((B1.setCell (Nat.le_refl _) _).setCell (Nat.le_refl _) _).setCell (Nat.le_refl _) _).setCell (Nat.le_refl _) _

/-- A token lies in a block. -/
structure TB (w : World) (g : Nat) (p : TL) : Prop where
  c0 : w.cell? ⟨g, 0, none⟩ = some (.int .i64 p.1.k)
  c1 : w.cell? ⟨g, 1, none⟩ = some (.int .i64 p.2)
  c2 : w.cell? ⟨g, 2, none⟩ = some (.int .i64 p.1.n)
  c3 : w.cell? ⟨g, 3, none⟩ = some (.string (St p.1.t))
  fz : ∀ j, w.frozen? ⟨g, j, none⟩ = false
theorem TB.lt {g : Nat} {p : TL} (h : TB w g p) : g < w.heap.size := World.block_lt_of_cell? w ⟨g, 0, none⟩ h.c0
theorem TB.turn {g : Nat} {p : TL} (h : TB w g p) {S : Nat → Prop} (ht : Turn S w w') (hg : ¬ S g) : TB w' g p := by
  have e : ∀ o, w'.cell? ⟨g, o, none⟩ = w.cell? ⟨g, o, none⟩ := fun o => World.cell?_of_block (ht.block g h.lt hg)
  have e2 : ∀ o, w'.frozen? ⟨g, o, none⟩ = w.frozen? ⟨g, o, none⟩ := fun o => World.frozen?_of_block (w := w) (ht.block g h.lt hg)
  exact ⟨(e _).trans h.c0, (e _).trans h.c1, (e _).trans h.c2, (e _).trans h.c3, fun j => (e2 j).trans (h.fz j)⟩
theorem TB.new (w : World) (p : TL) (g : Nat) (hg : g = w.heap.size) : TB (w.alloc (.cells #[.int .i64 p.1.k, .int .i64 p.2, .int .i64 p.1.n, .string (St p.1.t)] 37)) g p := by
  subst hg
  exact ⟨by simp, by simp, by simp, by simp, fun j => by simp only [World.frozen?]; rw [heap_alloc_new]; rfl⟩

theorem xnext_any (h : RX g w a dep ask pv) (ha : a ≤ 9007199254740992) : Calls Tryz.prog 84 #[.pointer (some ⟨g.rb, 0, none⟩)] w fun e w' => e = .returned (tokV (g.L.getD a TL.none)) ∧ RX g w' (a + 1) dep ask pv ∧ TX g.rb w w' := by
  have h1 := h.alloc tokZP
  have HP : Hid _ := ⟨xpeek_any h1⟩
  have HH : Hid _ := ⟨h1⟩
  have HW : Hid _ := ⟨h⟩
  have T0 : TBP (w.alloc tokZP) w.heap.size := TBP.new w
  have hrb : ¬ g.rb = w.heap.size := by have := h.lt; omega
  have hak := h.ak
  have hw1 : IntKind.i64.wrap ((a : Int) + 1) = (a : Int) + 1 := by rw [IntKind.wrap_i64]; omega
  generalize g.L.getD a TL.none = p at *
  clear h h1
  go_enter Tryz.func84, Tryz.ntmps84
  go_wp2_with (go_at_call 83; (with_reducible refine HP.out.mono ?_); rintro e w1 ⟨rfl, hb1⟩; have HX : Hid _ := ⟨HH.out.bel hb1⟩; have c1 := HX.out.c1; have z1 := HX.out.fz 1; have hlt1 := HX.out.lt; have T1 := T0.turn (Turn.of_below hb1 (fun _ => False)) (fun e => e); have hlt2 : w.heap.size < w1.heap.size := World.block_lt_of_cell? w1 _ T1.c0; obtain ⟨r0, r1, r2, r3, r4⟩ := id T1)
  have hX := (HX.out.setAt (a + 1) _ rfl (by omega)).set4 (w0 := w) HW.out w.heap.size (Nat.le_refl _) (x := .int .i64 0) (by rw [World.cell?_setCell_far _ _ _ _ (fun e => hrb e)]; exact r0) (.int .i64 p.1.k) (.int .i64 p.2) (.int .i64 p.1.n) (.string (St p.1.t))
  have T2 := T1.turn (Turn.setCell (S := fun k => k = g.rb) (Turn.refl _ w1) ⟨g.rb, 1, none⟩ rfl (.int .i64 ((a : Int) + 1))) (fun e => hrb e.symm)
  obtain ⟨s0, s1, s2, s3⟩ := T2.cells (.int .i64 p.1.k) (.int .i64 p.2) (.int .i64 p.1.n) (.string (St p.1.t))
  have hT : TX g.rb w (set4 (w1.setCell ⟨g.rb, 1, none⟩ (.int .i64 ((a : Int) + 1))) w.heap.size (.int .i64 p.1.k) (.int .i64 p.2) (.int .i64 p.1.n) (.string (St p.1.t))) :=
    TX.set4 (TX.set ((Turn.alloc (Turn.refl _ w) tokZP).trans (Turn.of_below hb1 _)) 1 _) (Nat.le_refl _) _ _ _ _
  refine bodyPost_ret (resT_next _ _ w.heap.size _ _ _ _ rfl (up_alloc s0 _) (up_alloc s1 _) (up_alloc s2 _) (up_alloc s3 _)) rfl ⟨rfl, hX.alloc _, hT.alloc _⟩
end
end Go.Proofs.YtljmbgflcidokaaGreatDoor
