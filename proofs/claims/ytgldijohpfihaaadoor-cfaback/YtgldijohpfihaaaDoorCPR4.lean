/- The program's reader: an op, whole. -/
import Derived.Test.YtgldijohpfihaaaDoorCPRX
namespace Go.Proofs.YtgldijohpfihaaaDoor
open Go.ChangeShapes Go.WideShapes Go.ChangeAt Go.RowKit
set_option linter.unusedVariables false
set_option linter.unusedSimpArgs false

section
variable {w0 W W' : World} {rb : Nat} {ao : Option Addr} {len cap : Nat} {bs : Nat → Int} {t : Int} {bad : Bool} {g : Nat}
theorem PP.bel (h : PP w0 W rb ao len cap bs t bad g) (hb : Below W.heap.size W W') : PP w0 W' rb ao len cap bs t bad g :=
  ⟨h.rd.bel hb h.rd.lt, h.row.below hb (Nat.le_refl _), h.tu.trans (Turn.of_below hb _), h.blk.bel hb h.blk.lt, h.ne, h.new, h.na⟩
theorem PP.far (h : PP w0 W rb ao len cap bs t bad g) {s : Nat} (V : Array Value) (h1 : rb ≠ s) (h2 : g ≠ s) (h3 : w0.heap.size ≤ s) (h4 : 0 < len → ∀ b off, ao = some ⟨b, off, none⟩ → b ≠ s) : PP w0 (W.setRow s V) rb ao len cap bs t bad g :=
  ⟨h.rd.setO h1 V, h.row.turn (turn_set W s V) (fun h0 b off e hk => h4 h0 b off e hk), h.tu.trans' (turn_set W s V) (fun i hi e => by omega), h.blk.setO h2 V, h.ne, h.new, h.na⟩
end
theorem Turn.fz {w w' : World} {rb : Nat} (h : Turn (fun k => k = rb) w w') (hrb : rb < w.heap.size) : Below rb w w' := h.below (Nat.le_of_lt hrb) (fun k e => by omega)
theorem gval_byte {bs : Nat → Int} (hbs : ∀ i, 0 ≤ bs i ∧ bs i < 256) (t : Nat) : gval bs t 1 false = bs t := by
  have h := hbs t
  simp [gval, bacc, wrap64]
  omega
/-- An op, as the program reads it. -/
def opP (len : Nat) (bs : Nat → Int) (t : Nat) : LO :=
  if 192 ≤ bs t then ⟨⟨6, bs t - 192, 0⟩, true, t + 1, false⟩
  else if 128 ≤ bs t then ⟨⟨5, bs t - 128, (uoP len bs (t + 1) false).1⟩, true, (uoP len bs (t + 1) false).2.1, (uoP len bs (t + 1) false).2.2⟩
  else if 64 ≤ bs t then ⟨⟨1, 0, bs t - 64⟩, true, t + 1, false⟩
  else lowP len bs (bs t) (t + 1) false
def okP (x : LO) : Bool := x.known && (!x.bad && mayB x.o)
theorem row_ne {w : World} {ao : Option Addr} {len : Nat} {bs : Nat → Int} (hr : Row w ao len bs) : 0 < len → ∀ b off, ao = some ⟨b, off, none⟩ → b < w.heap.size := by
  intro h0 b off e
  rcases hr with h | ⟨b', off', e', h⟩
  · omega
  · rw [e] at e'
    simp only [Option.some.injEq, Addr.mk.injEq] at e'
    obtain ⟨rfl, _, _⟩ := e'
    exact World.block_lt_of_cell? w _ (h 0 h0)

def OE (x : LO) (w w' : World) (rb : Nat) (v : Value) (e : Ending) : Prop := e = .returned (.tuple #[x.o.val, .bool (okP x)]) ∧ PD w' rb v (x.t : Int) x.bad ∧ Turn (fun k => k = rb) w w'

set_option maxRecDepth 10000 in
set_option maxHeartbeats 1000000 in
theorem op_a (rb : Nat) (ao : Option Addr) (len cap t : Nat) (bs : Nat → Int) (w : World) (h : PD w rb (.slice ao len cap) (t : Int) false) (hr : Row w ao len bs) (hna : 0 < len → ∀ b off, ao = some ⟨b, off, none⟩ → b ≠ rb) (hbs : ∀ i, 0 ≤ bs i ∧ bs i < 256) (hl : len ≤ 1048576) (ht : t < len) (hf : Fz w) (hrb : 0 < rb) (k1 : 192 ≤ bs t) :
    Calls Tryd.prog 39 #[.pointer (some ⟨rb, 0, none⟩)] w fun e w' => OE (opP len bs t) w w' rb (.slice ao len cap) e := by
  have hX : opP len bs t = ⟨⟨6, bs t - 192, 0⟩, true, t + 1, false⟩ := by unfold opP; rw [if_pos k1]
  rw [hX]
  clear hX
  have P0 := pp_start (bad := false) h hr hna
  have hrn := row_ne hr
  have hg : nP (gN len bs t 1) t false = (bs t, t + 1, false) := by
    unfold gN
    rw [if_pos (by omega), gval_byte hbs]
    rfl
  have HC1 : Hid (∀ W, PP w W rb ao len cap bs (t : Int) false w.heap.size → Calls Tryd.prog 54 #[.pointer (some ⟨rb, 0, none⟩), .int .i64 1] W fun e w' => PE (bs t, t + 1, false) W w' rb (.slice ao len cap) e) := ⟨fun W hP => hg ▸ pfixed_any rb ao len cap t 1 bs false W hP.rd hP.row hbs hl (by omega) (.inl rfl)⟩
  have hc0 := (hbs t).1
  have hc1 := (hbs t).2
  have HF : Hid _ := ⟨hf⟩
  have hlt0 := h.lt
  clear hg hf
  generalize bs t = c at *
  go_enter Tryd.func39, Tryd.ntmps39
  go_upto_region 1 with fail
  change Code.wp _ _ _ _ (w.alloc (.cells zeroO 75))
  have HP0 : Hid _ := ⟨P0⟩
  clear P0 h hr hna
  generalize w.alloc (.cells zeroO 75) = W0 at *
  go_upto_region 2 with (go_at_call 54; (with_reducible refine (HC1.out _ HP0.out).mono ?_); rintro e w1 ⟨he, h1, t1⟩; dsimp only at he h1; subst he; have HP1 : Hid _ := ⟨HP0.out.go h1 t1⟩; clear h1 t1)
  iterate 1 go_step
  refine wpList_val (v := .agg zeroO) (w' := w1) (by kernel_rfl) (by kernel_rfl) ?_
  simp only [Act.put, List.getElem_toArray, List.getElem_cons_succ, List.getElem_cons_zero, List.setIfInBounds_toArray, List.set_cons_zero, List.set_cons_succ]
  refine wpList_val (v := .pointer (some ⟨w1.heap.size, 0, none⟩)) (w' := w1.alloc (.cells zeroO 75)) (by kernel_rfl) (by kernel_rfl) ?_
  simp only [Act.put, List.getElem_toArray, List.getElem_cons_succ, List.getElem_cons_zero, List.setIfInBounds_toArray, List.set_cons_zero, List.set_cons_succ]
  have B2 : Below w1.heap.size w1 (w1.alloc (.cells zeroO 75)) := (Below.refl _ _).alloc (Nat.le_refl _) _
  have P2 := HP1.out.bel B2
  have N2 : Bk (w1.alloc (.cells zeroO 75)) w1.heap.size 75 zeroO := Bk.new _ _ _
  have hrs : rb ≠ w1.heap.size := by have := HP1.out.rd.lt; omega
  have hgs : w.heap.size ≠ w1.heap.size := by have := HP1.out.blk.lt; omega
  have hws : w.heap.size ≤ w1.heap.size := HP1.out.tu.size
  have hns : 0 < len → ∀ b off, ao = some ⟨b, off, none⟩ → b ≠ w1.heap.size := fun h0 b off e => by have := hrn h0 b off e; omega
  refine wpList_part (g := w1.heap.size) (off := 0) (val := .agg zeroO) (new := zeroO) rfl rfl (by kernel_rfl) (by kernel_rfl) N2 (by rw [sizeOp]; rfl) (by show 0 + 3 ≤ 3; omega) (oqA_one 0 0 0) rfl ?_
  simp only [Act.put, List.getElem_toArray, List.getElem_cons_succ, List.getElem_cons_zero, List.setIfInBounds_toArray, List.set_cons_zero, List.set_cons_succ]
  have P3 := P2.far zeroO hrs hgs hws hns
  have N3 := N2.setR zeroO
  generalize (w1.alloc (.cells zeroO 75)).setRow w1.heap.size zeroO = W2 at *
  generalize w1.heap.size = sb at *
  refine wpList_val (v := .bool true) (w' := W2) (by kernel_rfl) (by kernel_rfl) ?_
  simp only [Act.put, List.getElem_toArray, List.getElem_cons_succ, List.getElem_cons_zero, List.setIfInBounds_toArray, List.set_cons_zero, List.set_cons_succ]
  refine wpList_nil ?_
  have HP2 : Hid _ := ⟨P3⟩
  have HN2 : Hid _ := ⟨N3⟩
  have HNS : Hid (0 < len → ∀ b off, ao = some ⟨b, off, none⟩ → b ≠ sb) := ⟨hns⟩
  clear P2 P3 N2 N3 B2 HC1 hns hrn

  go_upto_region 10 with (refine wpList_part (g := sb) (off := 0) (val := .agg (oqA 6 (c - 192) 0)) (new := oqA 6 (c - 192) 0) rfl rfl (by rfl) (by rfl) HN2.out (by rw [sizeOp]; rfl) (by show 0 + 3 ≤ 3; omega) (oqA_one _ _ _) rfl ?_; have HPZ : Hid _ := ⟨HP2.out.far (oqA 6 (c - 192) 0) hrs hgs hws HNS.out⟩; have HNZ : Hid _ := ⟨HN2.out.setR (oqA 6 (c - 192) 0)⟩; generalize W2.setRow sb (oqA 6 (c - 192) 0) = W3 at *)
  clear HP1 HP2 HN2
  go_upto_region 10 with fail
  have PZ := HPZ.out.bel ((Below.refl W3.heap.size W3).drew)
  have NZ : Bk W3.drew sb 75 (oqA 6 (c - 192) 0) := HNZ.out.of rfl
  have FZ : Fz W3.drew := HF.out.bel (PZ.tu.fz hlt0) hrb
  refine wp_region_held_drew (S := fun u => Bk u sb 75 (oqA 6 (c - 192) 0) ∧ u.cell? ⟨rb, 2, none⟩ = some (.bool false)) (by kernel_rfl) ⟨NZ, PZ.rd.cell 2 rfl⟩ (fun hS => ?_)
  generalize W3.drew = W4 at *
  refine wpAnyH_take (i := 0) (v := .agg (oqA 6 (c - 192) 0)) rfl (by kernel_rfl) (by kernel_rfl) (by kernel_rfl) (fun _ _ _ h => h) (Or.inl ⟨by kernel_rfl, fun u hu => exec_loadV (t := 75) (p := ⟨sb, 0, none⟩) rfl (by kernel_rfl) (load_op (o := ⟨6, (c - 192), 0⟩) hu.1)⟩) hS ?_
  simp only [Act.put, List.getElem_toArray, List.getElem_cons_succ, List.getElem_cons_zero, List.setIfInBounds_toArray, List.set_cons_zero, List.set_cons_succ]
  refine wpAnyH_take (i := 1) (v := .bool true) rfl (by kernel_rfl) (by kernel_rfl) (by kernel_rfl) (fun _ _ _ h => h) (Or.inl ⟨by kernel_rfl, fun u hu => by kernel_rfl⟩) hS ?_
  simp only [Act.put, List.getElem_toArray, List.getElem_cons_succ, List.getElem_cons_zero, List.setIfInBounds_toArray, List.set_cons_zero, List.set_cons_succ]
  refine wpAnyH_take (i := 2) (v := .bool true) rfl (by kernel_rfl) (by kernel_rfl) (by kernel_rfl) (fun _ _ _ h => h) (Or.inl ⟨by kernel_rfl, fun u hu => by kernel_rfl⟩) hS ?_
  simp only [Act.put, List.getElem_toArray, List.getElem_cons_succ, List.getElem_cons_zero, List.setIfInBounds_toArray, List.set_cons_zero, List.set_cons_succ]
  refine wpAnyH_take (i := 3) (v := .pointer (some ⟨rb, 0, none⟩)) rfl (by kernel_rfl) (by kernel_rfl) (by kernel_rfl) (fun _ _ _ h => h) (Or.inl ⟨by kernel_rfl, fun u hu => by kernel_rfl⟩) hS ?_
  simp only [Act.put, List.getElem_toArray, List.getElem_cons_succ, List.getElem_cons_zero, List.setIfInBounds_toArray, List.set_cons_zero, List.set_cons_succ]
  refine wpAnyH_take (i := 4) (v := .pointer (some ⟨rb, 0, none⟩)) rfl (by kernel_rfl) (by kernel_rfl) (by kernel_rfl) (fun _ _ _ h => h) (Or.inl ⟨by kernel_rfl, fun u hu => by kernel_rfl⟩) hS ?_
  simp only [Act.put, List.getElem_toArray, List.getElem_cons_succ, List.getElem_cons_zero, List.setIfInBounds_toArray, List.set_cons_zero, List.set_cons_succ]
  refine wpAnyH_take (i := 5) (v := .pointer (some ⟨rb, 2, none⟩)) rfl (by kernel_rfl) (by kernel_rfl) (by kernel_rfl) (fun _ _ _ h => h) (Or.inl ⟨by kernel_rfl, fun u hu => by kernel_rfl⟩) hS ?_
  simp only [Act.put, List.getElem_toArray, List.getElem_cons_succ, List.getElem_cons_zero, List.setIfInBounds_toArray, List.set_cons_zero, List.set_cons_succ]
  refine wpAnyH_take (i := 6) (v := .bool false) rfl (by kernel_rfl) (by kernel_rfl) (by kernel_rfl) (fun _ _ _ h => h) (Or.inl ⟨by kernel_rfl, fun u hu => exec_loadV (t := 4) (p := ⟨rb, 2, none⟩) rfl (by kernel_rfl) (load_bool hu.2)⟩) hS ?_
  simp only [Act.put, List.getElem_toArray, List.getElem_cons_succ, List.getElem_cons_zero, List.setIfInBounds_toArray, List.set_cons_zero, List.set_cons_succ]
  refine wpAnyH_take (i := 7) (v := .bool true) rfl (by kernel_rfl) (by kernel_rfl) (by kernel_rfl) (fun _ _ _ h => h) (Or.inl ⟨by kernel_rfl, fun u hu => by kernel_rfl⟩) hS ?_
  simp only [Act.put, List.getElem_toArray, List.getElem_cons_succ, List.getElem_cons_zero, List.setIfInBounds_toArray, List.set_cons_zero, List.set_cons_succ]
  refine wpAnyH_take (i := 8) (v := .bool true) rfl (by kernel_rfl) (by kernel_rfl) (by kernel_rfl) (fun _ _ _ h => h) (Or.inl ⟨by kernel_rfl, fun u hu => by kernel_rfl⟩) hS ?_
  simp only [Act.put, List.getElem_toArray, List.getElem_cons_succ, List.getElem_cons_zero, List.setIfInBounds_toArray, List.set_cons_zero, List.set_cons_succ]
  refine wpAnyH_take (i := 9) (v := .bool true) rfl (by kernel_rfl) (by kernel_rfl) (by kernel_rfl) (fun _ _ _ h => h) (Or.inl ⟨by kernel_rfl, fun u hu => by kernel_rfl⟩) hS ?_
  simp only [Act.put, List.getElem_toArray, List.getElem_cons_succ, List.getElem_cons_zero, List.setIfInBounds_toArray, List.set_cons_zero, List.set_cons_succ]
  refine wpAnyH_take (i := 10) (v := .agg (oqA 6 (c - 192) 0)) rfl (by kernel_rfl) (by kernel_rfl) (by kernel_rfl) (fun _ _ _ h => h) (Or.inl ⟨by kernel_rfl, fun u hu => exec_loadV (t := 75) (p := ⟨sb, 0, none⟩) rfl (by kernel_rfl) (load_op (o := ⟨6, (c - 192), 0⟩) hu.1)⟩) hS ?_
  simp only [Act.put, List.getElem_toArray, List.getElem_cons_succ, List.getElem_cons_zero, List.setIfInBounds_toArray, List.set_cons_zero, List.set_cons_succ]
  refine wpAnyH_ready (rs := [11]) (by kernel_rfl) (by simp) ?_
  refine AllReadyH.cons rfl (fun K hK => ?_) AllReadyH.nil
  simp only [List.getElem_toArray, List.getElem_cons_succ, List.getElem_cons_zero]
  refine wp_if (by kernel_rfl) ?_
  refine wp_enter (f := 35) (args := #[.agg (oqA 6 (c - 192) 0)]) (by kernel_rfl) (mayBe_any ⟨6, (c - 192), 0⟩ W4 FZ) ?_
  rintro e w6 ⟨rfl, hb6⟩
  refine ⟨_, rfl, ?_⟩
  have PZ := PZ.bel hb6
  have NZ := NZ.bel hb6 NZ.lt
  refine hK.out _ _ ⟨NZ, PZ.rd.cell 2 rfl⟩ (fun hS => ?_)
  clear hK hb6 FZ
  generalize hmb : mayB ⟨6, (c - 192), 0⟩ = mb at *
  simp only [Act.put, List.getElem_toArray, List.getElem_cons_succ, List.getElem_cons_zero, List.setIfInBounds_toArray, List.set_cons_zero, List.set_cons_succ]
  refine wpAnyH_take (i := 12) (v := .bool mb) rfl (by kernel_rfl) (by kernel_rfl) (by kernel_rfl) (fun _ _ _ h => h) (Or.inl ⟨by kernel_rfl, fun u hu => by kernel_rfl⟩) hS ?_
  simp only [Act.put, List.getElem_toArray, List.getElem_cons_succ, List.getElem_cons_zero, List.setIfInBounds_toArray, List.set_cons_zero, List.set_cons_succ]
  have _u := PZ
  refine wpAnyH_ready (rs := [13]) (by kernel_rfl) (by simp) ?_
  refine AllReadyH.cons rfl (fun K hK => ?_) AllReadyH.nil
  simp only [List.getElem_toArray, List.getElem_cons_succ, List.getElem_cons_zero]
  refine wp_if (by kernel_rfl) ?_
  refine wp_part (g := w.heap.size) (off := 0) (val := .agg (oqA 6 (c - 192) 0)) (new := oqA 6 (c - 192) 0) rfl (by kernel_rfl) (by kernel_rfl) PZ.blk (by rw [sizeOp]; rfl) (by show 0 + 3 ≤ 3; omega) (oqA_one _ _ _) rfl ?_
  have HZ := PZ.put (oqA 6 (c - 192) 0)
  refine hK.out _ _ ⟨NZ.setO (Ne.symm hgs) _, HZ.1.cell 2 rfl⟩ (fun hS => ?_)
  clear hK
  simp only [Act.put, List.getElem_toArray, List.getElem_cons_succ, List.getElem_cons_zero, List.setIfInBounds_toArray, List.set_cons_zero, List.set_cons_succ]
  refine wpAnyH_take (i := 14) (v := .bool mb) rfl (by kernel_rfl) (by kernel_rfl) (by kernel_rfl) (fun _ _ _ h => h) (Or.inl ⟨by kernel_rfl, fun u hu => by kernel_rfl⟩) hS ?_
  simp only [Act.put, List.getElem_toArray, List.getElem_cons_succ, List.getElem_cons_zero, List.setIfInBounds_toArray, List.set_cons_zero, List.set_cons_succ]
  refine wpAnyH_done (by kernel_rfl) ?_ _
  generalize w6.setRow w.heap.size (oqA 6 (c - 192) 0) = W5 at *
  clear hS
  go_wp2_with fail
  (try simp only [Exit.inBlock, Exit.then])
  refine bodyPost_ret (results_ct rfl rfl (load_op (o := ⟨6, (c - 192), 0⟩) HZ.2.2)) rfl ?_
  exact ⟨by rw [← hmb]; rfl, HZ.1, HZ.2.1⟩
set_option maxRecDepth 10000 in
set_option maxHeartbeats 1000000 in
theorem op_c (rb : Nat) (ao : Option Addr) (len cap t : Nat) (bs : Nat → Int) (w : World) (h : PD w rb (.slice ao len cap) (t : Int) false) (hr : Row w ao len bs) (hna : 0 < len → ∀ b off, ao = some ⟨b, off, none⟩ → b ≠ rb) (hbs : ∀ i, 0 ≤ bs i ∧ bs i < 256) (hl : len ≤ 1048576) (ht : t < len) (hf : Fz w) (hrb : 0 < rb) (k1 : ¬ 192 ≤ bs t) (k2 : ¬ 128 ≤ bs t) (k3 : 64 ≤ bs t) :
    Calls Tryd.prog 39 #[.pointer (some ⟨rb, 0, none⟩)] w fun e w' => OE (opP len bs t) w w' rb (.slice ao len cap) e := by
  have hX : opP len bs t = ⟨⟨1, 0, bs t - 64⟩, true, t + 1, false⟩ := by unfold opP; rw [if_neg k1, if_neg k2, if_pos k3]
  rw [hX]
  clear hX
  have P0 := pp_start (bad := false) h hr hna
  have hrn := row_ne hr
  have hg : nP (gN len bs t 1) t false = (bs t, t + 1, false) := by
    unfold gN
    rw [if_pos (by omega), gval_byte hbs]
    rfl
  have HC1 : Hid (∀ W, PP w W rb ao len cap bs (t : Int) false w.heap.size → Calls Tryd.prog 54 #[.pointer (some ⟨rb, 0, none⟩), .int .i64 1] W fun e w' => PE (bs t, t + 1, false) W w' rb (.slice ao len cap) e) := ⟨fun W hP => hg ▸ pfixed_any rb ao len cap t 1 bs false W hP.rd hP.row hbs hl (by omega) (.inl rfl)⟩
  have hc0 := (hbs t).1
  have hc1 := (hbs t).2
  have HF : Hid _ := ⟨hf⟩
  have hlt0 := h.lt
  clear hg hf
  generalize bs t = c at *
  go_enter Tryd.func39, Tryd.ntmps39
  go_upto_region 1 with fail
  change Code.wp _ _ _ _ (w.alloc (.cells zeroO 75))
  have HP0 : Hid _ := ⟨P0⟩
  clear P0 h hr hna
  generalize w.alloc (.cells zeroO 75) = W0 at *
  go_upto_region 2 with (go_at_call 54; (with_reducible refine (HC1.out _ HP0.out).mono ?_); rintro e w1 ⟨he, h1, t1⟩; dsimp only at he h1; subst he; have HP1 : Hid _ := ⟨HP0.out.go h1 t1⟩; clear h1 t1)
  iterate 1 go_step
  refine wpList_val (v := .agg zeroO) (w' := w1) (by kernel_rfl) (by kernel_rfl) ?_
  simp only [Act.put, List.getElem_toArray, List.getElem_cons_succ, List.getElem_cons_zero, List.setIfInBounds_toArray, List.set_cons_zero, List.set_cons_succ]
  refine wpList_val (v := .pointer (some ⟨w1.heap.size, 0, none⟩)) (w' := w1.alloc (.cells zeroO 75)) (by kernel_rfl) (by kernel_rfl) ?_
  simp only [Act.put, List.getElem_toArray, List.getElem_cons_succ, List.getElem_cons_zero, List.setIfInBounds_toArray, List.set_cons_zero, List.set_cons_succ]
  have B2 : Below w1.heap.size w1 (w1.alloc (.cells zeroO 75)) := (Below.refl _ _).alloc (Nat.le_refl _) _
  have P2 := HP1.out.bel B2
  have N2 : Bk (w1.alloc (.cells zeroO 75)) w1.heap.size 75 zeroO := Bk.new _ _ _
  have hrs : rb ≠ w1.heap.size := by have := HP1.out.rd.lt; omega
  have hgs : w.heap.size ≠ w1.heap.size := by have := HP1.out.blk.lt; omega
  have hws : w.heap.size ≤ w1.heap.size := HP1.out.tu.size
  have hns : 0 < len → ∀ b off, ao = some ⟨b, off, none⟩ → b ≠ w1.heap.size := fun h0 b off e => by have := hrn h0 b off e; omega
  refine wpList_part (g := w1.heap.size) (off := 0) (val := .agg zeroO) (new := zeroO) rfl rfl (by kernel_rfl) (by kernel_rfl) N2 (by rw [sizeOp]; rfl) (by show 0 + 3 ≤ 3; omega) (oqA_one 0 0 0) rfl ?_
  simp only [Act.put, List.getElem_toArray, List.getElem_cons_succ, List.getElem_cons_zero, List.setIfInBounds_toArray, List.set_cons_zero, List.set_cons_succ]
  have P3 := P2.far zeroO hrs hgs hws hns
  have N3 := N2.setR zeroO
  generalize (w1.alloc (.cells zeroO 75)).setRow w1.heap.size zeroO = W2 at *
  generalize w1.heap.size = sb at *
  refine wpList_val (v := .bool true) (w' := W2) (by kernel_rfl) (by kernel_rfl) ?_
  simp only [Act.put, List.getElem_toArray, List.getElem_cons_succ, List.getElem_cons_zero, List.setIfInBounds_toArray, List.set_cons_zero, List.set_cons_succ]
  refine wpList_nil ?_
  have HP2 : Hid _ := ⟨P3⟩
  have HN2 : Hid _ := ⟨N3⟩
  have HNS : Hid (0 < len → ∀ b off, ao = some ⟨b, off, none⟩ → b ≠ sb) := ⟨hns⟩
  clear P2 P3 N2 N3 B2 HC1 hns hrn

  go_upto_region 10 with (refine wpList_part (g := sb) (off := 0) (val := .agg (oqA 1 0 (c - 64))) (new := oqA 1 0 (c - 64)) rfl rfl (by rfl) (by rfl) HN2.out (by rw [sizeOp]; rfl) (by show 0 + 3 ≤ 3; omega) (oqA_one _ _ _) rfl ?_; have HPZ : Hid _ := ⟨HP2.out.far (oqA 1 0 (c - 64)) hrs hgs hws HNS.out⟩; have HNZ : Hid _ := ⟨HN2.out.setR (oqA 1 0 (c - 64))⟩; generalize W2.setRow sb (oqA 1 0 (c - 64)) = W3 at *)
  clear HP1 HP2 HN2
  go_upto_region 10 with fail
  have PZ := HPZ.out.bel ((Below.refl W3.heap.size W3).drew)
  have NZ : Bk W3.drew sb 75 (oqA 1 0 (c - 64)) := HNZ.out.of rfl
  have FZ : Fz W3.drew := HF.out.bel (PZ.tu.fz hlt0) hrb
  refine wp_region_held_drew (S := fun u => Bk u sb 75 (oqA 1 0 (c - 64)) ∧ u.cell? ⟨rb, 2, none⟩ = some (.bool false)) (by kernel_rfl) ⟨NZ, PZ.rd.cell 2 rfl⟩ (fun hS => ?_)
  generalize W3.drew = W4 at *
  refine wpAnyH_take (i := 0) (v := .agg (oqA 1 0 (c - 64))) rfl (by kernel_rfl) (by kernel_rfl) (by kernel_rfl) (fun _ _ _ h => h) (Or.inl ⟨by kernel_rfl, fun u hu => exec_loadV (t := 75) (p := ⟨sb, 0, none⟩) rfl (by kernel_rfl) (load_op (o := ⟨1, 0, (c - 64)⟩) hu.1)⟩) hS ?_
  simp only [Act.put, List.getElem_toArray, List.getElem_cons_succ, List.getElem_cons_zero, List.setIfInBounds_toArray, List.set_cons_zero, List.set_cons_succ]
  refine wpAnyH_take (i := 1) (v := .bool true) rfl (by kernel_rfl) (by kernel_rfl) (by kernel_rfl) (fun _ _ _ h => h) (Or.inl ⟨by kernel_rfl, fun u hu => by kernel_rfl⟩) hS ?_
  simp only [Act.put, List.getElem_toArray, List.getElem_cons_succ, List.getElem_cons_zero, List.setIfInBounds_toArray, List.set_cons_zero, List.set_cons_succ]
  refine wpAnyH_take (i := 2) (v := .bool true) rfl (by kernel_rfl) (by kernel_rfl) (by kernel_rfl) (fun _ _ _ h => h) (Or.inl ⟨by kernel_rfl, fun u hu => by kernel_rfl⟩) hS ?_
  simp only [Act.put, List.getElem_toArray, List.getElem_cons_succ, List.getElem_cons_zero, List.setIfInBounds_toArray, List.set_cons_zero, List.set_cons_succ]
  refine wpAnyH_take (i := 3) (v := .pointer (some ⟨rb, 0, none⟩)) rfl (by kernel_rfl) (by kernel_rfl) (by kernel_rfl) (fun _ _ _ h => h) (Or.inl ⟨by kernel_rfl, fun u hu => by kernel_rfl⟩) hS ?_
  simp only [Act.put, List.getElem_toArray, List.getElem_cons_succ, List.getElem_cons_zero, List.setIfInBounds_toArray, List.set_cons_zero, List.set_cons_succ]
  refine wpAnyH_take (i := 4) (v := .pointer (some ⟨rb, 0, none⟩)) rfl (by kernel_rfl) (by kernel_rfl) (by kernel_rfl) (fun _ _ _ h => h) (Or.inl ⟨by kernel_rfl, fun u hu => by kernel_rfl⟩) hS ?_
  simp only [Act.put, List.getElem_toArray, List.getElem_cons_succ, List.getElem_cons_zero, List.setIfInBounds_toArray, List.set_cons_zero, List.set_cons_succ]
  refine wpAnyH_take (i := 5) (v := .pointer (some ⟨rb, 2, none⟩)) rfl (by kernel_rfl) (by kernel_rfl) (by kernel_rfl) (fun _ _ _ h => h) (Or.inl ⟨by kernel_rfl, fun u hu => by kernel_rfl⟩) hS ?_
  simp only [Act.put, List.getElem_toArray, List.getElem_cons_succ, List.getElem_cons_zero, List.setIfInBounds_toArray, List.set_cons_zero, List.set_cons_succ]
  refine wpAnyH_take (i := 6) (v := .bool false) rfl (by kernel_rfl) (by kernel_rfl) (by kernel_rfl) (fun _ _ _ h => h) (Or.inl ⟨by kernel_rfl, fun u hu => exec_loadV (t := 4) (p := ⟨rb, 2, none⟩) rfl (by kernel_rfl) (load_bool hu.2)⟩) hS ?_
  simp only [Act.put, List.getElem_toArray, List.getElem_cons_succ, List.getElem_cons_zero, List.setIfInBounds_toArray, List.set_cons_zero, List.set_cons_succ]
  refine wpAnyH_take (i := 7) (v := .bool true) rfl (by kernel_rfl) (by kernel_rfl) (by kernel_rfl) (fun _ _ _ h => h) (Or.inl ⟨by kernel_rfl, fun u hu => by kernel_rfl⟩) hS ?_
  simp only [Act.put, List.getElem_toArray, List.getElem_cons_succ, List.getElem_cons_zero, List.setIfInBounds_toArray, List.set_cons_zero, List.set_cons_succ]
  refine wpAnyH_take (i := 8) (v := .bool true) rfl (by kernel_rfl) (by kernel_rfl) (by kernel_rfl) (fun _ _ _ h => h) (Or.inl ⟨by kernel_rfl, fun u hu => by kernel_rfl⟩) hS ?_
  simp only [Act.put, List.getElem_toArray, List.getElem_cons_succ, List.getElem_cons_zero, List.setIfInBounds_toArray, List.set_cons_zero, List.set_cons_succ]
  refine wpAnyH_take (i := 9) (v := .bool true) rfl (by kernel_rfl) (by kernel_rfl) (by kernel_rfl) (fun _ _ _ h => h) (Or.inl ⟨by kernel_rfl, fun u hu => by kernel_rfl⟩) hS ?_
  simp only [Act.put, List.getElem_toArray, List.getElem_cons_succ, List.getElem_cons_zero, List.setIfInBounds_toArray, List.set_cons_zero, List.set_cons_succ]
  refine wpAnyH_take (i := 10) (v := .agg (oqA 1 0 (c - 64))) rfl (by kernel_rfl) (by kernel_rfl) (by kernel_rfl) (fun _ _ _ h => h) (Or.inl ⟨by kernel_rfl, fun u hu => exec_loadV (t := 75) (p := ⟨sb, 0, none⟩) rfl (by kernel_rfl) (load_op (o := ⟨1, 0, (c - 64)⟩) hu.1)⟩) hS ?_
  simp only [Act.put, List.getElem_toArray, List.getElem_cons_succ, List.getElem_cons_zero, List.setIfInBounds_toArray, List.set_cons_zero, List.set_cons_succ]
  refine wpAnyH_ready (rs := [11]) (by kernel_rfl) (by simp) ?_
  refine AllReadyH.cons rfl (fun K hK => ?_) AllReadyH.nil
  simp only [List.getElem_toArray, List.getElem_cons_succ, List.getElem_cons_zero]
  refine wp_if (by kernel_rfl) ?_
  refine wp_enter (f := 35) (args := #[.agg (oqA 1 0 (c - 64))]) (by kernel_rfl) (mayBe_any ⟨1, 0, (c - 64)⟩ W4 FZ) ?_
  rintro e w6 ⟨rfl, hb6⟩
  refine ⟨_, rfl, ?_⟩
  have PZ := PZ.bel hb6
  have NZ := NZ.bel hb6 NZ.lt
  refine hK.out _ _ ⟨NZ, PZ.rd.cell 2 rfl⟩ (fun hS => ?_)
  clear hK hb6 FZ
  generalize hmb : mayB ⟨1, 0, (c - 64)⟩ = mb at *
  simp only [Act.put, List.getElem_toArray, List.getElem_cons_succ, List.getElem_cons_zero, List.setIfInBounds_toArray, List.set_cons_zero, List.set_cons_succ]
  refine wpAnyH_take (i := 12) (v := .bool mb) rfl (by kernel_rfl) (by kernel_rfl) (by kernel_rfl) (fun _ _ _ h => h) (Or.inl ⟨by kernel_rfl, fun u hu => by kernel_rfl⟩) hS ?_
  simp only [Act.put, List.getElem_toArray, List.getElem_cons_succ, List.getElem_cons_zero, List.setIfInBounds_toArray, List.set_cons_zero, List.set_cons_succ]
  have _u := PZ
  refine wpAnyH_ready (rs := [13]) (by kernel_rfl) (by simp) ?_
  refine AllReadyH.cons rfl (fun K hK => ?_) AllReadyH.nil
  simp only [List.getElem_toArray, List.getElem_cons_succ, List.getElem_cons_zero]
  refine wp_if (by kernel_rfl) ?_
  refine wp_part (g := w.heap.size) (off := 0) (val := .agg (oqA 1 0 (c - 64))) (new := oqA 1 0 (c - 64)) rfl (by kernel_rfl) (by kernel_rfl) PZ.blk (by rw [sizeOp]; rfl) (by show 0 + 3 ≤ 3; omega) (oqA_one _ _ _) rfl ?_
  have HZ := PZ.put (oqA 1 0 (c - 64))
  refine hK.out _ _ ⟨NZ.setO (Ne.symm hgs) _, HZ.1.cell 2 rfl⟩ (fun hS => ?_)
  clear hK
  simp only [Act.put, List.getElem_toArray, List.getElem_cons_succ, List.getElem_cons_zero, List.setIfInBounds_toArray, List.set_cons_zero, List.set_cons_succ]
  refine wpAnyH_take (i := 14) (v := .bool mb) rfl (by kernel_rfl) (by kernel_rfl) (by kernel_rfl) (fun _ _ _ h => h) (Or.inl ⟨by kernel_rfl, fun u hu => by kernel_rfl⟩) hS ?_
  simp only [Act.put, List.getElem_toArray, List.getElem_cons_succ, List.getElem_cons_zero, List.setIfInBounds_toArray, List.set_cons_zero, List.set_cons_succ]
  refine wpAnyH_done (by kernel_rfl) ?_ _
  generalize w6.setRow w.heap.size (oqA 1 0 (c - 64)) = W5 at *
  clear hS
  go_wp2_with fail
  (try simp only [Exit.inBlock, Exit.then])
  refine bodyPost_ret (results_ct rfl rfl (load_op (o := ⟨1, 0, (c - 64)⟩) HZ.2.2)) rfl ?_
  exact ⟨by rw [← hmb]; rfl, HZ.1, HZ.2.1⟩
set_option maxRecDepth 10000 in
set_option maxHeartbeats 1000000 in
theorem op_b (rb : Nat) (ao : Option Addr) (len cap t : Nat) (bs : Nat → Int) (w : World) (h : PD w rb (.slice ao len cap) (t : Int) false) (hr : Row w ao len bs) (hna : 0 < len → ∀ b off, ao = some ⟨b, off, none⟩ → b ≠ rb) (hbs : ∀ i, 0 ≤ bs i ∧ bs i < 256) (hl : len ≤ 1048576) (ht : t < len) (hf : Fz w) (hrb : 0 < rb) (k1 : ¬ 192 ≤ bs t) (k2 : 128 ≤ bs t) :
    Calls Tryd.prog 39 #[.pointer (some ⟨rb, 0, none⟩)] w fun e w' => OE (opP len bs t) w w' rb (.slice ao len cap) e := by
  have hX : opP len bs t = ⟨⟨5, bs t - 128, (uoP len bs (t + 1) false).1⟩, true, (uoP len bs (t + 1) false).2.1, (uoP len bs (t + 1) false).2.2⟩ := by unfold opP; rw [if_neg k1, if_pos k2]
  rw [hX]
  clear hX
  have P0 := pp_start (bad := false) h hr hna
  have hrn := row_ne hr
  have hg : nP (gN len bs t 1) t false = (bs t, t + 1, false) := by
    unfold gN
    rw [if_pos (by omega), gval_byte hbs]
    rfl
  have HC1 : Hid (∀ W, PP w W rb ao len cap bs (t : Int) false w.heap.size → Calls Tryd.prog 54 #[.pointer (some ⟨rb, 0, none⟩), .int .i64 1] W fun e w' => PE (bs t, t + 1, false) W w' rb (.slice ao len cap) e) := ⟨fun W hP => hg ▸ pfixed_any rb ao len cap t 1 bs false W hP.rd hP.row hbs hl (by omega) (.inl rfl)⟩
  have hc0 := (hbs t).1
  have hc1 := (hbs t).2
  have HF : Hid _ := ⟨hf⟩
  have hlt0 := h.lt
  clear hg hf
  obtain ⟨Y, hY⟩ : ∃ Y, uoP len bs (t + 1) false = Y := ⟨_, rfl⟩
  rw [hY]
  have HCu : Hid (∀ W, PP w W rb ao len cap bs ((t + 1 : Nat) : Int) false w.heap.size → Calls Tryd.prog 55 #[.pointer (some ⟨rb, 0, none⟩)] W fun e w' => PE Y W w' rb (.slice ao len cap) e) := ⟨fun W hP => hY ▸ puo_any rb ao len cap (t + 1) bs false W hP.rd hP.row hbs hl (by omega)⟩
  clear hY
  obtain ⟨yn, yt, yb⟩ := Y
  dsimp only
  generalize bs t = c at *
  go_enter Tryd.func39, Tryd.ntmps39
  go_upto_region 1 with fail
  change Code.wp _ _ _ _ (w.alloc (.cells zeroO 75))
  have HP0 : Hid _ := ⟨P0⟩
  clear P0 h hr hna
  generalize w.alloc (.cells zeroO 75) = W0 at *
  go_upto_region 2 with (go_at_call 54; (with_reducible refine (HC1.out _ HP0.out).mono ?_); rintro e w1 ⟨he, h1, t1⟩; dsimp only at he h1; subst he; have HP1 : Hid _ := ⟨HP0.out.go h1 t1⟩; clear h1 t1)
  iterate 1 go_step
  refine wpList_val (v := .agg zeroO) (w' := w1) (by kernel_rfl) (by kernel_rfl) ?_
  simp only [Act.put, List.getElem_toArray, List.getElem_cons_succ, List.getElem_cons_zero, List.setIfInBounds_toArray, List.set_cons_zero, List.set_cons_succ]
  refine wpList_val (v := .pointer (some ⟨w1.heap.size, 0, none⟩)) (w' := w1.alloc (.cells zeroO 75)) (by kernel_rfl) (by kernel_rfl) ?_
  simp only [Act.put, List.getElem_toArray, List.getElem_cons_succ, List.getElem_cons_zero, List.setIfInBounds_toArray, List.set_cons_zero, List.set_cons_succ]
  have B2 : Below w1.heap.size w1 (w1.alloc (.cells zeroO 75)) := (Below.refl _ _).alloc (Nat.le_refl _) _
  have P2 := HP1.out.bel B2
  have N2 : Bk (w1.alloc (.cells zeroO 75)) w1.heap.size 75 zeroO := Bk.new _ _ _
  have hrs : rb ≠ w1.heap.size := by have := HP1.out.rd.lt; omega
  have hgs : w.heap.size ≠ w1.heap.size := by have := HP1.out.blk.lt; omega
  have hws : w.heap.size ≤ w1.heap.size := HP1.out.tu.size
  have hns : 0 < len → ∀ b off, ao = some ⟨b, off, none⟩ → b ≠ w1.heap.size := fun h0 b off e => by have := hrn h0 b off e; omega
  refine wpList_part (g := w1.heap.size) (off := 0) (val := .agg zeroO) (new := zeroO) rfl rfl (by kernel_rfl) (by kernel_rfl) N2 (by rw [sizeOp]; rfl) (by show 0 + 3 ≤ 3; omega) (oqA_one 0 0 0) rfl ?_
  simp only [Act.put, List.getElem_toArray, List.getElem_cons_succ, List.getElem_cons_zero, List.setIfInBounds_toArray, List.set_cons_zero, List.set_cons_succ]
  have P3 := P2.far zeroO hrs hgs hws hns
  have N3 := N2.setR zeroO
  generalize (w1.alloc (.cells zeroO 75)).setRow w1.heap.size zeroO = W2 at *
  generalize w1.heap.size = sb at *
  refine wpList_val (v := .bool true) (w' := W2) (by kernel_rfl) (by kernel_rfl) ?_
  simp only [Act.put, List.getElem_toArray, List.getElem_cons_succ, List.getElem_cons_zero, List.setIfInBounds_toArray, List.set_cons_zero, List.set_cons_succ]
  refine wpList_nil ?_
  have HP2 : Hid _ := ⟨P3⟩
  have HN2 : Hid _ := ⟨N3⟩
  have HNS : Hid (0 < len → ∀ b off, ao = some ⟨b, off, none⟩ → b ≠ sb) := ⟨hns⟩
  clear P2 P3 N2 N3 B2 HC1 hns hrn

  go_upto_region 10 with (first
    | (go_at_call 55; (with_reducible refine (HCu.out _ HP2.out).mono ?_); rintro e wu ⟨he, hu, tu⟩; dsimp only at he hu; subst he; have HPu : Hid _ := ⟨HP2.out.go hu tu⟩; have HNu : Hid _ := ⟨HN2.out.of (tu.block sb HN2.out.lt (Ne.symm hrs))⟩; clear hu tu)
    | (refine wpList_part (g := sb) (off := 0) (val := .agg (oqA 5 (c - 128) yn)) (new := oqA 5 (c - 128) yn) rfl rfl (by rfl) (by rfl) HNu.out (by rw [sizeOp]; rfl) (by show 0 + 3 ≤ 3; omega) (oqA_one _ _ _) rfl ?_; have HPZ : Hid _ := ⟨HPu.out.far (oqA 5 (c - 128) yn) hrs hgs hws HNS.out⟩; have HNZ : Hid _ := ⟨HNu.out.setR (oqA 5 (c - 128) yn)⟩; generalize wu.setRow sb (oqA 5 (c - 128) yn) = W3 at *))
  clear HP1 HP2 HN2 HPu HNu
  cases yb with
  | true =>
    go_upto_region 10 with fail
    have PZ := HPZ.out.bel ((Below.refl W3.heap.size W3).drew)
    have NZ : Bk W3.drew sb 75 (oqA 5 (c - 128) yn) := HNZ.out.of rfl
    have FZ : Fz W3.drew := HF.out.bel (PZ.tu.fz hlt0) hrb
    refine wp_region_held_drew (S := fun u => Bk u sb 75 (oqA 5 (c - 128) yn) ∧ u.cell? ⟨rb, 2, none⟩ = some (.bool true)) (by kernel_rfl) ⟨NZ, PZ.rd.cell 2 rfl⟩ (fun hS => ?_)
    generalize W3.drew = W4 at *
    refine wpAnyH_take (i := 0) (v := .agg (oqA 5 (c - 128) yn)) rfl (by kernel_rfl) (by kernel_rfl) (by kernel_rfl) (fun _ _ _ h => h) (Or.inl ⟨by kernel_rfl, fun u hu => exec_loadV (t := 75) (p := ⟨sb, 0, none⟩) rfl (by kernel_rfl) (load_op (o := ⟨5, (c - 128), yn⟩) hu.1)⟩) hS ?_
    simp only [Act.put, List.getElem_toArray, List.getElem_cons_succ, List.getElem_cons_zero, List.setIfInBounds_toArray, List.set_cons_zero, List.set_cons_succ]
    refine wpAnyH_take (i := 1) (v := .bool true) rfl (by kernel_rfl) (by kernel_rfl) (by kernel_rfl) (fun _ _ _ h => h) (Or.inl ⟨by kernel_rfl, fun u hu => by kernel_rfl⟩) hS ?_
    simp only [Act.put, List.getElem_toArray, List.getElem_cons_succ, List.getElem_cons_zero, List.setIfInBounds_toArray, List.set_cons_zero, List.set_cons_succ]
    refine wpAnyH_take (i := 2) (v := .bool true) rfl (by kernel_rfl) (by kernel_rfl) (by kernel_rfl) (fun _ _ _ h => h) (Or.inl ⟨by kernel_rfl, fun u hu => by kernel_rfl⟩) hS ?_
    simp only [Act.put, List.getElem_toArray, List.getElem_cons_succ, List.getElem_cons_zero, List.setIfInBounds_toArray, List.set_cons_zero, List.set_cons_succ]
    refine wpAnyH_take (i := 3) (v := .pointer (some ⟨rb, 0, none⟩)) rfl (by kernel_rfl) (by kernel_rfl) (by kernel_rfl) (fun _ _ _ h => h) (Or.inl ⟨by kernel_rfl, fun u hu => by kernel_rfl⟩) hS ?_
    simp only [Act.put, List.getElem_toArray, List.getElem_cons_succ, List.getElem_cons_zero, List.setIfInBounds_toArray, List.set_cons_zero, List.set_cons_succ]
    refine wpAnyH_take (i := 4) (v := .pointer (some ⟨rb, 0, none⟩)) rfl (by kernel_rfl) (by kernel_rfl) (by kernel_rfl) (fun _ _ _ h => h) (Or.inl ⟨by kernel_rfl, fun u hu => by kernel_rfl⟩) hS ?_
    simp only [Act.put, List.getElem_toArray, List.getElem_cons_succ, List.getElem_cons_zero, List.setIfInBounds_toArray, List.set_cons_zero, List.set_cons_succ]
    refine wpAnyH_take (i := 5) (v := .pointer (some ⟨rb, 2, none⟩)) rfl (by kernel_rfl) (by kernel_rfl) (by kernel_rfl) (fun _ _ _ h => h) (Or.inl ⟨by kernel_rfl, fun u hu => by kernel_rfl⟩) hS ?_
    simp only [Act.put, List.getElem_toArray, List.getElem_cons_succ, List.getElem_cons_zero, List.setIfInBounds_toArray, List.set_cons_zero, List.set_cons_succ]
    refine wpAnyH_take (i := 6) (v := .bool true) rfl (by kernel_rfl) (by kernel_rfl) (by kernel_rfl) (fun _ _ _ h => h) (Or.inl ⟨by kernel_rfl, fun u hu => exec_loadV (t := 4) (p := ⟨rb, 2, none⟩) rfl (by kernel_rfl) (load_bool hu.2)⟩) hS ?_
    simp only [Act.put, List.getElem_toArray, List.getElem_cons_succ, List.getElem_cons_zero, List.setIfInBounds_toArray, List.set_cons_zero, List.set_cons_succ]
    refine wpAnyH_take (i := 7) (v := .bool false) rfl (by kernel_rfl) (by kernel_rfl) (by kernel_rfl) (fun _ _ _ h => h) (Or.inl ⟨by kernel_rfl, fun u hu => by kernel_rfl⟩) hS ?_
    simp only [Act.put, List.getElem_toArray, List.getElem_cons_succ, List.getElem_cons_zero, List.setIfInBounds_toArray, List.set_cons_zero, List.set_cons_succ]
    refine wpAnyH_take (i := 8) (v := .bool false) rfl (by kernel_rfl) (by kernel_rfl) (by kernel_rfl) (fun _ _ _ h => h) (Or.inl ⟨by kernel_rfl, fun u hu => by kernel_rfl⟩) hS ?_
    simp only [Act.put, List.getElem_toArray, List.getElem_cons_succ, List.getElem_cons_zero, List.setIfInBounds_toArray, List.set_cons_zero, List.set_cons_succ]
    refine wpAnyH_take (i := 9) (v := .bool false) rfl (by kernel_rfl) (by kernel_rfl) (by kernel_rfl) (fun _ _ _ h => h) (Or.inl ⟨by kernel_rfl, fun u hu => by kernel_rfl⟩) hS ?_
    simp only [Act.put, List.getElem_toArray, List.getElem_cons_succ, List.getElem_cons_zero, List.setIfInBounds_toArray, List.set_cons_zero, List.set_cons_succ]
    refine wpAnyH_take (i := 10) (v := undef) rfl (by kernel_rfl) (by kernel_rfl) (by kernel_rfl) (fun _ _ _ h => h) (Or.inr ⟨by kernel_rfl, rfl⟩) hS ?_
    simp only [Act.put, List.getElem_toArray, List.getElem_cons_succ, List.getElem_cons_zero, List.setIfInBounds_toArray, List.set_cons_zero, List.set_cons_succ]
    refine wpAnyH_take (i := 11) (v := undef) rfl (by kernel_rfl) (by kernel_rfl) (by kernel_rfl) (fun _ _ _ h => h) (Or.inr ⟨by kernel_rfl, rfl⟩) hS ?_
    simp only [Act.put, List.getElem_toArray, List.getElem_cons_succ, List.getElem_cons_zero, List.setIfInBounds_toArray, List.set_cons_zero, List.set_cons_succ]
    refine wpAnyH_take (i := 12) (v := .bool false) rfl (by kernel_rfl) (by kernel_rfl) (by kernel_rfl) (fun _ _ _ h => h) (Or.inl ⟨by kernel_rfl, fun u hu => by kernel_rfl⟩) hS ?_
    simp only [Act.put, List.getElem_toArray, List.getElem_cons_succ, List.getElem_cons_zero, List.setIfInBounds_toArray, List.set_cons_zero, List.set_cons_succ]
    refine wpAnyH_ready (rs := [13]) (by kernel_rfl) (by simp) ?_
    refine AllReadyH.cons rfl (fun K hK => ?_) AllReadyH.nil
    simp only [List.getElem_toArray, List.getElem_cons_succ, List.getElem_cons_zero]
    refine wp_if (by kernel_rfl) ?_
    refine wp_part (g := w.heap.size) (off := 0) (val := .agg (oqA 5 (c - 128) yn)) (new := oqA 5 (c - 128) yn) rfl (by kernel_rfl) (by kernel_rfl) PZ.blk (by rw [sizeOp]; rfl) (by show 0 + 3 ≤ 3; omega) (oqA_one _ _ _) rfl ?_
    have HZ := PZ.put (oqA 5 (c - 128) yn)
    refine hK.out _ _ ⟨NZ.setO (Ne.symm hgs) _, HZ.1.cell 2 rfl⟩ (fun hS => ?_)
    clear hK
    simp only [Act.put, List.getElem_toArray, List.getElem_cons_succ, List.getElem_cons_zero, List.setIfInBounds_toArray, List.set_cons_zero, List.set_cons_succ]
    refine wpAnyH_take (i := 14) (v := .bool false) rfl (by kernel_rfl) (by kernel_rfl) (by kernel_rfl) (fun _ _ _ h => h) (Or.inl ⟨by kernel_rfl, fun u hu => by kernel_rfl⟩) hS ?_
    simp only [Act.put, List.getElem_toArray, List.getElem_cons_succ, List.getElem_cons_zero, List.setIfInBounds_toArray, List.set_cons_zero, List.set_cons_succ]
    refine wpAnyH_done (by kernel_rfl) ?_ _
    generalize W4.setRow w.heap.size (oqA 5 (c - 128) yn) = W5 at *
    clear hS
    go_wp2_with fail
    (try simp only [Exit.inBlock, Exit.then])
    refine bodyPost_ret (results_ct rfl rfl (load_op (o := ⟨5, (c - 128), yn⟩) HZ.2.2)) rfl ?_
    exact ⟨by rfl, HZ.1, HZ.2.1⟩
  | false =>
    go_upto_region 10 with fail
    have PZ := HPZ.out.bel ((Below.refl W3.heap.size W3).drew)
    have NZ : Bk W3.drew sb 75 (oqA 5 (c - 128) yn) := HNZ.out.of rfl
    have FZ : Fz W3.drew := HF.out.bel (PZ.tu.fz hlt0) hrb
    refine wp_region_held_drew (S := fun u => Bk u sb 75 (oqA 5 (c - 128) yn) ∧ u.cell? ⟨rb, 2, none⟩ = some (.bool false)) (by kernel_rfl) ⟨NZ, PZ.rd.cell 2 rfl⟩ (fun hS => ?_)
    generalize W3.drew = W4 at *
    refine wpAnyH_take (i := 0) (v := .agg (oqA 5 (c - 128) yn)) rfl (by kernel_rfl) (by kernel_rfl) (by kernel_rfl) (fun _ _ _ h => h) (Or.inl ⟨by kernel_rfl, fun u hu => exec_loadV (t := 75) (p := ⟨sb, 0, none⟩) rfl (by kernel_rfl) (load_op (o := ⟨5, (c - 128), yn⟩) hu.1)⟩) hS ?_
    simp only [Act.put, List.getElem_toArray, List.getElem_cons_succ, List.getElem_cons_zero, List.setIfInBounds_toArray, List.set_cons_zero, List.set_cons_succ]
    refine wpAnyH_take (i := 1) (v := .bool true) rfl (by kernel_rfl) (by kernel_rfl) (by kernel_rfl) (fun _ _ _ h => h) (Or.inl ⟨by kernel_rfl, fun u hu => by kernel_rfl⟩) hS ?_
    simp only [Act.put, List.getElem_toArray, List.getElem_cons_succ, List.getElem_cons_zero, List.setIfInBounds_toArray, List.set_cons_zero, List.set_cons_succ]
    refine wpAnyH_take (i := 2) (v := .bool true) rfl (by kernel_rfl) (by kernel_rfl) (by kernel_rfl) (fun _ _ _ h => h) (Or.inl ⟨by kernel_rfl, fun u hu => by kernel_rfl⟩) hS ?_
    simp only [Act.put, List.getElem_toArray, List.getElem_cons_succ, List.getElem_cons_zero, List.setIfInBounds_toArray, List.set_cons_zero, List.set_cons_succ]
    refine wpAnyH_take (i := 3) (v := .pointer (some ⟨rb, 0, none⟩)) rfl (by kernel_rfl) (by kernel_rfl) (by kernel_rfl) (fun _ _ _ h => h) (Or.inl ⟨by kernel_rfl, fun u hu => by kernel_rfl⟩) hS ?_
    simp only [Act.put, List.getElem_toArray, List.getElem_cons_succ, List.getElem_cons_zero, List.setIfInBounds_toArray, List.set_cons_zero, List.set_cons_succ]
    refine wpAnyH_take (i := 4) (v := .pointer (some ⟨rb, 0, none⟩)) rfl (by kernel_rfl) (by kernel_rfl) (by kernel_rfl) (fun _ _ _ h => h) (Or.inl ⟨by kernel_rfl, fun u hu => by kernel_rfl⟩) hS ?_
    simp only [Act.put, List.getElem_toArray, List.getElem_cons_succ, List.getElem_cons_zero, List.setIfInBounds_toArray, List.set_cons_zero, List.set_cons_succ]
    refine wpAnyH_take (i := 5) (v := .pointer (some ⟨rb, 2, none⟩)) rfl (by kernel_rfl) (by kernel_rfl) (by kernel_rfl) (fun _ _ _ h => h) (Or.inl ⟨by kernel_rfl, fun u hu => by kernel_rfl⟩) hS ?_
    simp only [Act.put, List.getElem_toArray, List.getElem_cons_succ, List.getElem_cons_zero, List.setIfInBounds_toArray, List.set_cons_zero, List.set_cons_succ]
    refine wpAnyH_take (i := 6) (v := .bool false) rfl (by kernel_rfl) (by kernel_rfl) (by kernel_rfl) (fun _ _ _ h => h) (Or.inl ⟨by kernel_rfl, fun u hu => exec_loadV (t := 4) (p := ⟨rb, 2, none⟩) rfl (by kernel_rfl) (load_bool hu.2)⟩) hS ?_
    simp only [Act.put, List.getElem_toArray, List.getElem_cons_succ, List.getElem_cons_zero, List.setIfInBounds_toArray, List.set_cons_zero, List.set_cons_succ]
    refine wpAnyH_take (i := 7) (v := .bool true) rfl (by kernel_rfl) (by kernel_rfl) (by kernel_rfl) (fun _ _ _ h => h) (Or.inl ⟨by kernel_rfl, fun u hu => by kernel_rfl⟩) hS ?_
    simp only [Act.put, List.getElem_toArray, List.getElem_cons_succ, List.getElem_cons_zero, List.setIfInBounds_toArray, List.set_cons_zero, List.set_cons_succ]
    refine wpAnyH_take (i := 8) (v := .bool true) rfl (by kernel_rfl) (by kernel_rfl) (by kernel_rfl) (fun _ _ _ h => h) (Or.inl ⟨by kernel_rfl, fun u hu => by kernel_rfl⟩) hS ?_
    simp only [Act.put, List.getElem_toArray, List.getElem_cons_succ, List.getElem_cons_zero, List.setIfInBounds_toArray, List.set_cons_zero, List.set_cons_succ]
    refine wpAnyH_take (i := 9) (v := .bool true) rfl (by kernel_rfl) (by kernel_rfl) (by kernel_rfl) (fun _ _ _ h => h) (Or.inl ⟨by kernel_rfl, fun u hu => by kernel_rfl⟩) hS ?_
    simp only [Act.put, List.getElem_toArray, List.getElem_cons_succ, List.getElem_cons_zero, List.setIfInBounds_toArray, List.set_cons_zero, List.set_cons_succ]
    refine wpAnyH_take (i := 10) (v := .agg (oqA 5 (c - 128) yn)) rfl (by kernel_rfl) (by kernel_rfl) (by kernel_rfl) (fun _ _ _ h => h) (Or.inl ⟨by kernel_rfl, fun u hu => exec_loadV (t := 75) (p := ⟨sb, 0, none⟩) rfl (by kernel_rfl) (load_op (o := ⟨5, (c - 128), yn⟩) hu.1)⟩) hS ?_
    simp only [Act.put, List.getElem_toArray, List.getElem_cons_succ, List.getElem_cons_zero, List.setIfInBounds_toArray, List.set_cons_zero, List.set_cons_succ]
    refine wpAnyH_ready (rs := [11]) (by kernel_rfl) (by simp) ?_
    refine AllReadyH.cons rfl (fun K hK => ?_) AllReadyH.nil
    simp only [List.getElem_toArray, List.getElem_cons_succ, List.getElem_cons_zero]
    refine wp_if (by kernel_rfl) ?_
    refine wp_enter (f := 35) (args := #[.agg (oqA 5 (c - 128) yn)]) (by kernel_rfl) (mayBe_any ⟨5, (c - 128), yn⟩ W4 FZ) ?_
    rintro e w6 ⟨rfl, hb6⟩
    refine ⟨_, rfl, ?_⟩
    have PZ := PZ.bel hb6
    have NZ := NZ.bel hb6 NZ.lt
    refine hK.out _ _ ⟨NZ, PZ.rd.cell 2 rfl⟩ (fun hS => ?_)
    clear hK hb6 FZ
    generalize hmb : mayB ⟨5, (c - 128), yn⟩ = mb at *
    simp only [Act.put, List.getElem_toArray, List.getElem_cons_succ, List.getElem_cons_zero, List.setIfInBounds_toArray, List.set_cons_zero, List.set_cons_succ]
    refine wpAnyH_take (i := 12) (v := .bool mb) rfl (by kernel_rfl) (by kernel_rfl) (by kernel_rfl) (fun _ _ _ h => h) (Or.inl ⟨by kernel_rfl, fun u hu => by kernel_rfl⟩) hS ?_
    simp only [Act.put, List.getElem_toArray, List.getElem_cons_succ, List.getElem_cons_zero, List.setIfInBounds_toArray, List.set_cons_zero, List.set_cons_succ]
    have _u := PZ
    refine wpAnyH_ready (rs := [13]) (by kernel_rfl) (by simp) ?_
    refine AllReadyH.cons rfl (fun K hK => ?_) AllReadyH.nil
    simp only [List.getElem_toArray, List.getElem_cons_succ, List.getElem_cons_zero]
    refine wp_if (by kernel_rfl) ?_
    refine wp_part (g := w.heap.size) (off := 0) (val := .agg (oqA 5 (c - 128) yn)) (new := oqA 5 (c - 128) yn) rfl (by kernel_rfl) (by kernel_rfl) PZ.blk (by rw [sizeOp]; rfl) (by show 0 + 3 ≤ 3; omega) (oqA_one _ _ _) rfl ?_
    have HZ := PZ.put (oqA 5 (c - 128) yn)
    refine hK.out _ _ ⟨NZ.setO (Ne.symm hgs) _, HZ.1.cell 2 rfl⟩ (fun hS => ?_)
    clear hK
    simp only [Act.put, List.getElem_toArray, List.getElem_cons_succ, List.getElem_cons_zero, List.setIfInBounds_toArray, List.set_cons_zero, List.set_cons_succ]
    refine wpAnyH_take (i := 14) (v := .bool mb) rfl (by kernel_rfl) (by kernel_rfl) (by kernel_rfl) (fun _ _ _ h => h) (Or.inl ⟨by kernel_rfl, fun u hu => by kernel_rfl⟩) hS ?_
    simp only [Act.put, List.getElem_toArray, List.getElem_cons_succ, List.getElem_cons_zero, List.setIfInBounds_toArray, List.set_cons_zero, List.set_cons_succ]
    refine wpAnyH_done (by kernel_rfl) ?_ _
    generalize w6.setRow w.heap.size (oqA 5 (c - 128) yn) = W5 at *
    clear hS
    go_wp2_with fail
    (try simp only [Exit.inBlock, Exit.then])
    refine bodyPost_ret (results_ct rfl rfl (load_op (o := ⟨5, (c - 128), yn⟩) HZ.2.2)) rfl ?_
    exact ⟨by rw [← hmb]; rfl, HZ.1, HZ.2.1⟩
set_option maxRecDepth 10000 in
set_option maxHeartbeats 1000000 in
theorem op_d (rb : Nat) (ao : Option Addr) (len cap t : Nat) (bs : Nat → Int) (w : World) (h : PD w rb (.slice ao len cap) (t : Int) false) (hr : Row w ao len bs) (hna : 0 < len → ∀ b off, ao = some ⟨b, off, none⟩ → b ≠ rb) (hbs : ∀ i, 0 ≤ bs i ∧ bs i < 256) (hl : len ≤ 1048576) (ht : t < len) (hf : Fz w) (hrb : 0 < rb) (k1 : ¬ 192 ≤ bs t) (k2 : ¬ 128 ≤ bs t) (k3 : ¬ 64 ≤ bs t) :
    Calls Tryd.prog 39 #[.pointer (some ⟨rb, 0, none⟩)] w fun e w' => OE (opP len bs t) w w' rb (.slice ao len cap) e := by
  have hX : opP len bs t = lowP len bs (bs t) (t + 1) false := by unfold opP; rw [if_neg k1, if_neg k2, if_neg k3]
  rw [hX]
  clear hX
  have P0 := pp_start (bad := false) h hr hna
  have hrn := row_ne hr
  have hg : nP (gN len bs t 1) t false = (bs t, t + 1, false) := by
    unfold gN
    rw [if_pos (by omega), gval_byte hbs]
    rfl
  have HC1 : Hid (∀ W, PP w W rb ao len cap bs (t : Int) false w.heap.size → Calls Tryd.prog 54 #[.pointer (some ⟨rb, 0, none⟩), .int .i64 1] W fun e w' => PE (bs t, t + 1, false) W w' rb (.slice ao len cap) e) := ⟨fun W hP => hg ▸ pfixed_any rb ao len cap t 1 bs false W hP.rd hP.row hbs hl (by omega) (.inl rfl)⟩
  have hc0 := (hbs t).1
  have hc1 := (hbs t).2
  have HF : Hid _ := ⟨hf⟩
  have hlt0 := h.lt
  clear hg hf
  obtain ⟨Y, hY⟩ : ∃ Y, lowP len bs (bs t) (t + 1) false = Y := ⟨_, rfl⟩
  rw [hY]
  have HCu : Hid (∀ W, PP w W rb ao len cap bs ((t + 1 : Nat) : Int) false w.heap.size → Calls Tryd.prog 56 #[.pointer (some ⟨rb, 0, none⟩), .int .i64 (bs t)] W fun e w' => LE Y W w' rb (.slice ao len cap) e) := ⟨fun W hP => hY ▸ low_any rb ao len cap (t + 1) bs false W hP.rd hP.row hP.na hbs hl (by omega) (bs t)⟩
  clear hY
  obtain ⟨⟨yk, yr, yn⟩, kn, yt, yb⟩ := Y
  generalize bs t = c at *
  go_enter Tryd.func39, Tryd.ntmps39
  go_upto_region 1 with fail
  change Code.wp _ _ _ _ (w.alloc (.cells zeroO 75))
  have HP0 : Hid _ := ⟨P0⟩
  clear P0 h hr hna
  generalize w.alloc (.cells zeroO 75) = W0 at *
  go_upto_region 2 with (go_at_call 54; (with_reducible refine (HC1.out _ HP0.out).mono ?_); rintro e w1 ⟨he, h1, t1⟩; dsimp only at he h1; subst he; have HP1 : Hid _ := ⟨HP0.out.go h1 t1⟩; clear h1 t1)
  iterate 1 go_step
  refine wpList_val (v := .agg zeroO) (w' := w1) (by kernel_rfl) (by kernel_rfl) ?_
  simp only [Act.put, List.getElem_toArray, List.getElem_cons_succ, List.getElem_cons_zero, List.setIfInBounds_toArray, List.set_cons_zero, List.set_cons_succ]
  refine wpList_val (v := .pointer (some ⟨w1.heap.size, 0, none⟩)) (w' := w1.alloc (.cells zeroO 75)) (by kernel_rfl) (by kernel_rfl) ?_
  simp only [Act.put, List.getElem_toArray, List.getElem_cons_succ, List.getElem_cons_zero, List.setIfInBounds_toArray, List.set_cons_zero, List.set_cons_succ]
  have B2 : Below w1.heap.size w1 (w1.alloc (.cells zeroO 75)) := (Below.refl _ _).alloc (Nat.le_refl _) _
  have P2 := HP1.out.bel B2
  have N2 : Bk (w1.alloc (.cells zeroO 75)) w1.heap.size 75 zeroO := Bk.new _ _ _
  have hrs : rb ≠ w1.heap.size := by have := HP1.out.rd.lt; omega
  have hgs : w.heap.size ≠ w1.heap.size := by have := HP1.out.blk.lt; omega
  have hws : w.heap.size ≤ w1.heap.size := HP1.out.tu.size
  have hns : 0 < len → ∀ b off, ao = some ⟨b, off, none⟩ → b ≠ w1.heap.size := fun h0 b off e => by have := hrn h0 b off e; omega
  refine wpList_part (g := w1.heap.size) (off := 0) (val := .agg zeroO) (new := zeroO) rfl rfl (by kernel_rfl) (by kernel_rfl) N2 (by rw [sizeOp]; rfl) (by show 0 + 3 ≤ 3; omega) (oqA_one 0 0 0) rfl ?_
  simp only [Act.put, List.getElem_toArray, List.getElem_cons_succ, List.getElem_cons_zero, List.setIfInBounds_toArray, List.set_cons_zero, List.set_cons_succ]
  have P3 := P2.far zeroO hrs hgs hws hns
  have N3 := N2.setR zeroO
  generalize (w1.alloc (.cells zeroO 75)).setRow w1.heap.size zeroO = W2 at *
  generalize w1.heap.size = sb at *
  refine wpList_val (v := .bool true) (w' := W2) (by kernel_rfl) (by kernel_rfl) ?_
  simp only [Act.put, List.getElem_toArray, List.getElem_cons_succ, List.getElem_cons_zero, List.setIfInBounds_toArray, List.set_cons_zero, List.set_cons_succ]
  refine wpList_nil ?_
  have HP2 : Hid _ := ⟨P3⟩
  have HN2 : Hid _ := ⟨N3⟩
  have HNS : Hid (0 < len → ∀ b off, ao = some ⟨b, off, none⟩ → b ≠ sb) := ⟨hns⟩
  clear P2 P3 N2 N3 B2 HC1 hns hrn

  go_upto_region 10 with (first
    | (go_at_call 56; (with_reducible refine (HCu.out _ HP2.out).mono ?_); rintro e wu ⟨he, hu, tu⟩; dsimp only at he hu; subst he; have HPu : Hid _ := ⟨HP2.out.go hu tu⟩; have HNu : Hid _ := ⟨HN2.out.of (tu.block sb HN2.out.lt (Ne.symm hrs))⟩; clear hu tu)
    | (refine wpList_part (g := sb) (off := 0) (val := .agg (oqA yk yr yn)) (new := oqA yk yr yn) rfl rfl (by rfl) (by rfl) HNu.out (by rw [sizeOp]; rfl) (by show 0 + 3 ≤ 3; omega) (oqA_one _ _ _) rfl ?_; have HPZ : Hid _ := ⟨HPu.out.far (oqA yk yr yn) hrs hgs hws HNS.out⟩; have HNZ : Hid _ := ⟨HNu.out.setR (oqA yk yr yn)⟩; generalize wu.setRow sb (oqA yk yr yn) = W3 at *))
  clear HP1 HP2 HN2 HPu HNu
  cases kn with
  | false =>
    go_upto_region 10 with fail
    have PZ := HPZ.out.bel ((Below.refl W3.heap.size W3).drew)
    have NZ : Bk W3.drew sb 75 (oqA yk yr yn) := HNZ.out.of rfl
    have FZ : Fz W3.drew := HF.out.bel (PZ.tu.fz hlt0) hrb
    refine wp_region_held_drew (S := fun u => Bk u sb 75 (oqA yk yr yn) ∧ u.cell? ⟨rb, 2, none⟩ = some (.bool yb)) (by kernel_rfl) ⟨NZ, PZ.rd.cell 2 rfl⟩ (fun hS => ?_)
    generalize W3.drew = W4 at *
    refine wpAnyH_take (i := 0) (v := .agg (oqA yk yr yn)) rfl (by kernel_rfl) (by kernel_rfl) (by kernel_rfl) (fun _ _ _ h => h) (Or.inl ⟨by kernel_rfl, fun u hu => exec_loadV (t := 75) (p := ⟨sb, 0, none⟩) rfl (by kernel_rfl) (load_op (o := ⟨yk, yr, yn⟩) hu.1)⟩) hS ?_
    simp only [Act.put, List.getElem_toArray, List.getElem_cons_succ, List.getElem_cons_zero, List.setIfInBounds_toArray, List.set_cons_zero, List.set_cons_succ]
    refine wpAnyH_take (i := 1) (v := .bool false) rfl (by kernel_rfl) (by kernel_rfl) (by kernel_rfl) (fun _ _ _ h => h) (Or.inl ⟨by kernel_rfl, fun u hu => by kernel_rfl⟩) hS ?_
    simp only [Act.put, List.getElem_toArray, List.getElem_cons_succ, List.getElem_cons_zero, List.setIfInBounds_toArray, List.set_cons_zero, List.set_cons_succ]
    refine wpAnyH_take (i := 2) (v := .bool false) rfl (by kernel_rfl) (by kernel_rfl) (by kernel_rfl) (fun _ _ _ h => h) (Or.inl ⟨by kernel_rfl, fun u hu => by kernel_rfl⟩) hS ?_
    simp only [Act.put, List.getElem_toArray, List.getElem_cons_succ, List.getElem_cons_zero, List.setIfInBounds_toArray, List.set_cons_zero, List.set_cons_succ]
    refine wpAnyH_take (i := 3) (v := undef) rfl (by kernel_rfl) (by kernel_rfl) (by kernel_rfl) (fun _ _ _ h => h) (Or.inr ⟨by kernel_rfl, rfl⟩) hS ?_
    simp only [Act.put, List.getElem_toArray, List.getElem_cons_succ, List.getElem_cons_zero, List.setIfInBounds_toArray, List.set_cons_zero, List.set_cons_succ]
    refine wpAnyH_take (i := 4) (v := undef) rfl (by kernel_rfl) (by kernel_rfl) (by kernel_rfl) (fun _ _ _ h => h) (Or.inr ⟨by kernel_rfl, rfl⟩) hS ?_
    simp only [Act.put, List.getElem_toArray, List.getElem_cons_succ, List.getElem_cons_zero, List.setIfInBounds_toArray, List.set_cons_zero, List.set_cons_succ]
    refine wpAnyH_take (i := 5) (v := undef) rfl (by kernel_rfl) (by kernel_rfl) (by kernel_rfl) (fun _ _ _ h => h) (Or.inr ⟨by kernel_rfl, rfl⟩) hS ?_
    simp only [Act.put, List.getElem_toArray, List.getElem_cons_succ, List.getElem_cons_zero, List.setIfInBounds_toArray, List.set_cons_zero, List.set_cons_succ]
    refine wpAnyH_take (i := 6) (v := undef) rfl (by kernel_rfl) (by kernel_rfl) (by kernel_rfl) (fun _ _ _ h => h) (Or.inr ⟨by kernel_rfl, rfl⟩) hS ?_
    simp only [Act.put, List.getElem_toArray, List.getElem_cons_succ, List.getElem_cons_zero, List.setIfInBounds_toArray, List.set_cons_zero, List.set_cons_succ]
    refine wpAnyH_take (i := 7) (v := undef) rfl (by kernel_rfl) (by kernel_rfl) (by kernel_rfl) (fun _ _ _ h => h) (Or.inr ⟨by kernel_rfl, rfl⟩) hS ?_
    simp only [Act.put, List.getElem_toArray, List.getElem_cons_succ, List.getElem_cons_zero, List.setIfInBounds_toArray, List.set_cons_zero, List.set_cons_succ]
    refine wpAnyH_take (i := 8) (v := .bool false) rfl (by kernel_rfl) (by kernel_rfl) (by kernel_rfl) (fun _ _ _ h => h) (Or.inl ⟨by kernel_rfl, fun u hu => by kernel_rfl⟩) hS ?_
    simp only [Act.put, List.getElem_toArray, List.getElem_cons_succ, List.getElem_cons_zero, List.setIfInBounds_toArray, List.set_cons_zero, List.set_cons_succ]
    refine wpAnyH_take (i := 9) (v := .bool false) rfl (by kernel_rfl) (by kernel_rfl) (by kernel_rfl) (fun _ _ _ h => h) (Or.inl ⟨by kernel_rfl, fun u hu => by kernel_rfl⟩) hS ?_
    simp only [Act.put, List.getElem_toArray, List.getElem_cons_succ, List.getElem_cons_zero, List.setIfInBounds_toArray, List.set_cons_zero, List.set_cons_succ]
    refine wpAnyH_take (i := 10) (v := undef) rfl (by kernel_rfl) (by kernel_rfl) (by kernel_rfl) (fun _ _ _ h => h) (Or.inr ⟨by kernel_rfl, rfl⟩) hS ?_
    simp only [Act.put, List.getElem_toArray, List.getElem_cons_succ, List.getElem_cons_zero, List.setIfInBounds_toArray, List.set_cons_zero, List.set_cons_succ]
    refine wpAnyH_take (i := 11) (v := undef) rfl (by kernel_rfl) (by kernel_rfl) (by kernel_rfl) (fun _ _ _ h => h) (Or.inr ⟨by kernel_rfl, rfl⟩) hS ?_
    simp only [Act.put, List.getElem_toArray, List.getElem_cons_succ, List.getElem_cons_zero, List.setIfInBounds_toArray, List.set_cons_zero, List.set_cons_succ]
    refine wpAnyH_take (i := 12) (v := .bool false) rfl (by kernel_rfl) (by kernel_rfl) (by kernel_rfl) (fun _ _ _ h => h) (Or.inl ⟨by kernel_rfl, fun u hu => by kernel_rfl⟩) hS ?_
    simp only [Act.put, List.getElem_toArray, List.getElem_cons_succ, List.getElem_cons_zero, List.setIfInBounds_toArray, List.set_cons_zero, List.set_cons_succ]
    refine wpAnyH_ready (rs := [13]) (by kernel_rfl) (by simp) ?_
    refine AllReadyH.cons rfl (fun K hK => ?_) AllReadyH.nil
    simp only [List.getElem_toArray, List.getElem_cons_succ, List.getElem_cons_zero]
    refine wp_if (by kernel_rfl) ?_
    refine wp_part (g := w.heap.size) (off := 0) (val := .agg (oqA yk yr yn)) (new := oqA yk yr yn) rfl (by kernel_rfl) (by kernel_rfl) PZ.blk (by rw [sizeOp]; rfl) (by show 0 + 3 ≤ 3; omega) (oqA_one _ _ _) rfl ?_
    have HZ := PZ.put (oqA yk yr yn)
    refine hK.out _ _ ⟨NZ.setO (Ne.symm hgs) _, HZ.1.cell 2 rfl⟩ (fun hS => ?_)
    clear hK
    simp only [Act.put, List.getElem_toArray, List.getElem_cons_succ, List.getElem_cons_zero, List.setIfInBounds_toArray, List.set_cons_zero, List.set_cons_succ]
    refine wpAnyH_take (i := 14) (v := .bool false) rfl (by kernel_rfl) (by kernel_rfl) (by kernel_rfl) (fun _ _ _ h => h) (Or.inl ⟨by kernel_rfl, fun u hu => by kernel_rfl⟩) hS ?_
    simp only [Act.put, List.getElem_toArray, List.getElem_cons_succ, List.getElem_cons_zero, List.setIfInBounds_toArray, List.set_cons_zero, List.set_cons_succ]
    refine wpAnyH_done (by kernel_rfl) ?_ _
    generalize W4.setRow w.heap.size (oqA yk yr yn) = W5 at *
    clear hS
    go_wp2_with fail
    (try simp only [Exit.inBlock, Exit.then])
    refine bodyPost_ret (results_ct rfl rfl (load_op (o := ⟨yk, yr, yn⟩) HZ.2.2)) rfl ?_
    exact ⟨by rfl, HZ.1, HZ.2.1⟩
  | true =>
    cases yb with
    | true =>
      go_upto_region 10 with fail
      have PZ := HPZ.out.bel ((Below.refl W3.heap.size W3).drew)
      have NZ : Bk W3.drew sb 75 (oqA yk yr yn) := HNZ.out.of rfl
      have FZ : Fz W3.drew := HF.out.bel (PZ.tu.fz hlt0) hrb
      refine wp_region_held_drew (S := fun u => Bk u sb 75 (oqA yk yr yn) ∧ u.cell? ⟨rb, 2, none⟩ = some (.bool true)) (by kernel_rfl) ⟨NZ, PZ.rd.cell 2 rfl⟩ (fun hS => ?_)
      generalize W3.drew = W4 at *
      refine wpAnyH_take (i := 0) (v := .agg (oqA yk yr yn)) rfl (by kernel_rfl) (by kernel_rfl) (by kernel_rfl) (fun _ _ _ h => h) (Or.inl ⟨by kernel_rfl, fun u hu => exec_loadV (t := 75) (p := ⟨sb, 0, none⟩) rfl (by kernel_rfl) (load_op (o := ⟨yk, yr, yn⟩) hu.1)⟩) hS ?_
      simp only [Act.put, List.getElem_toArray, List.getElem_cons_succ, List.getElem_cons_zero, List.setIfInBounds_toArray, List.set_cons_zero, List.set_cons_succ]
      refine wpAnyH_take (i := 1) (v := .bool true) rfl (by kernel_rfl) (by kernel_rfl) (by kernel_rfl) (fun _ _ _ h => h) (Or.inl ⟨by kernel_rfl, fun u hu => by kernel_rfl⟩) hS ?_
      simp only [Act.put, List.getElem_toArray, List.getElem_cons_succ, List.getElem_cons_zero, List.setIfInBounds_toArray, List.set_cons_zero, List.set_cons_succ]
      refine wpAnyH_take (i := 2) (v := .bool true) rfl (by kernel_rfl) (by kernel_rfl) (by kernel_rfl) (fun _ _ _ h => h) (Or.inl ⟨by kernel_rfl, fun u hu => by kernel_rfl⟩) hS ?_
      simp only [Act.put, List.getElem_toArray, List.getElem_cons_succ, List.getElem_cons_zero, List.setIfInBounds_toArray, List.set_cons_zero, List.set_cons_succ]
      refine wpAnyH_take (i := 3) (v := .pointer (some ⟨rb, 0, none⟩)) rfl (by kernel_rfl) (by kernel_rfl) (by kernel_rfl) (fun _ _ _ h => h) (Or.inl ⟨by kernel_rfl, fun u hu => by kernel_rfl⟩) hS ?_
      simp only [Act.put, List.getElem_toArray, List.getElem_cons_succ, List.getElem_cons_zero, List.setIfInBounds_toArray, List.set_cons_zero, List.set_cons_succ]
      refine wpAnyH_take (i := 4) (v := .pointer (some ⟨rb, 0, none⟩)) rfl (by kernel_rfl) (by kernel_rfl) (by kernel_rfl) (fun _ _ _ h => h) (Or.inl ⟨by kernel_rfl, fun u hu => by kernel_rfl⟩) hS ?_
      simp only [Act.put, List.getElem_toArray, List.getElem_cons_succ, List.getElem_cons_zero, List.setIfInBounds_toArray, List.set_cons_zero, List.set_cons_succ]
      refine wpAnyH_take (i := 5) (v := .pointer (some ⟨rb, 2, none⟩)) rfl (by kernel_rfl) (by kernel_rfl) (by kernel_rfl) (fun _ _ _ h => h) (Or.inl ⟨by kernel_rfl, fun u hu => by kernel_rfl⟩) hS ?_
      simp only [Act.put, List.getElem_toArray, List.getElem_cons_succ, List.getElem_cons_zero, List.setIfInBounds_toArray, List.set_cons_zero, List.set_cons_succ]
      refine wpAnyH_take (i := 6) (v := .bool true) rfl (by kernel_rfl) (by kernel_rfl) (by kernel_rfl) (fun _ _ _ h => h) (Or.inl ⟨by kernel_rfl, fun u hu => exec_loadV (t := 4) (p := ⟨rb, 2, none⟩) rfl (by kernel_rfl) (load_bool hu.2)⟩) hS ?_
      simp only [Act.put, List.getElem_toArray, List.getElem_cons_succ, List.getElem_cons_zero, List.setIfInBounds_toArray, List.set_cons_zero, List.set_cons_succ]
      refine wpAnyH_take (i := 7) (v := .bool false) rfl (by kernel_rfl) (by kernel_rfl) (by kernel_rfl) (fun _ _ _ h => h) (Or.inl ⟨by kernel_rfl, fun u hu => by kernel_rfl⟩) hS ?_
      simp only [Act.put, List.getElem_toArray, List.getElem_cons_succ, List.getElem_cons_zero, List.setIfInBounds_toArray, List.set_cons_zero, List.set_cons_succ]
      refine wpAnyH_take (i := 8) (v := .bool false) rfl (by kernel_rfl) (by kernel_rfl) (by kernel_rfl) (fun _ _ _ h => h) (Or.inl ⟨by kernel_rfl, fun u hu => by kernel_rfl⟩) hS ?_
      simp only [Act.put, List.getElem_toArray, List.getElem_cons_succ, List.getElem_cons_zero, List.setIfInBounds_toArray, List.set_cons_zero, List.set_cons_succ]
      refine wpAnyH_take (i := 9) (v := .bool false) rfl (by kernel_rfl) (by kernel_rfl) (by kernel_rfl) (fun _ _ _ h => h) (Or.inl ⟨by kernel_rfl, fun u hu => by kernel_rfl⟩) hS ?_
      simp only [Act.put, List.getElem_toArray, List.getElem_cons_succ, List.getElem_cons_zero, List.setIfInBounds_toArray, List.set_cons_zero, List.set_cons_succ]
      refine wpAnyH_take (i := 10) (v := undef) rfl (by kernel_rfl) (by kernel_rfl) (by kernel_rfl) (fun _ _ _ h => h) (Or.inr ⟨by kernel_rfl, rfl⟩) hS ?_
      simp only [Act.put, List.getElem_toArray, List.getElem_cons_succ, List.getElem_cons_zero, List.setIfInBounds_toArray, List.set_cons_zero, List.set_cons_succ]
      refine wpAnyH_take (i := 11) (v := undef) rfl (by kernel_rfl) (by kernel_rfl) (by kernel_rfl) (fun _ _ _ h => h) (Or.inr ⟨by kernel_rfl, rfl⟩) hS ?_
      simp only [Act.put, List.getElem_toArray, List.getElem_cons_succ, List.getElem_cons_zero, List.setIfInBounds_toArray, List.set_cons_zero, List.set_cons_succ]
      refine wpAnyH_take (i := 12) (v := .bool false) rfl (by kernel_rfl) (by kernel_rfl) (by kernel_rfl) (fun _ _ _ h => h) (Or.inl ⟨by kernel_rfl, fun u hu => by kernel_rfl⟩) hS ?_
      simp only [Act.put, List.getElem_toArray, List.getElem_cons_succ, List.getElem_cons_zero, List.setIfInBounds_toArray, List.set_cons_zero, List.set_cons_succ]
      refine wpAnyH_ready (rs := [13]) (by kernel_rfl) (by simp) ?_
      refine AllReadyH.cons rfl (fun K hK => ?_) AllReadyH.nil
      simp only [List.getElem_toArray, List.getElem_cons_succ, List.getElem_cons_zero]
      refine wp_if (by kernel_rfl) ?_
      refine wp_part (g := w.heap.size) (off := 0) (val := .agg (oqA yk yr yn)) (new := oqA yk yr yn) rfl (by kernel_rfl) (by kernel_rfl) PZ.blk (by rw [sizeOp]; rfl) (by show 0 + 3 ≤ 3; omega) (oqA_one _ _ _) rfl ?_
      have HZ := PZ.put (oqA yk yr yn)
      refine hK.out _ _ ⟨NZ.setO (Ne.symm hgs) _, HZ.1.cell 2 rfl⟩ (fun hS => ?_)
      clear hK
      simp only [Act.put, List.getElem_toArray, List.getElem_cons_succ, List.getElem_cons_zero, List.setIfInBounds_toArray, List.set_cons_zero, List.set_cons_succ]
      refine wpAnyH_take (i := 14) (v := .bool false) rfl (by kernel_rfl) (by kernel_rfl) (by kernel_rfl) (fun _ _ _ h => h) (Or.inl ⟨by kernel_rfl, fun u hu => by kernel_rfl⟩) hS ?_
      simp only [Act.put, List.getElem_toArray, List.getElem_cons_succ, List.getElem_cons_zero, List.setIfInBounds_toArray, List.set_cons_zero, List.set_cons_succ]
      refine wpAnyH_done (by kernel_rfl) ?_ _
      generalize W4.setRow w.heap.size (oqA yk yr yn) = W5 at *
      clear hS
      go_wp2_with fail
      (try simp only [Exit.inBlock, Exit.then])
      refine bodyPost_ret (results_ct rfl rfl (load_op (o := ⟨yk, yr, yn⟩) HZ.2.2)) rfl ?_
      exact ⟨by rfl, HZ.1, HZ.2.1⟩
    | false =>
      go_upto_region 10 with fail
      have PZ := HPZ.out.bel ((Below.refl W3.heap.size W3).drew)
      have NZ : Bk W3.drew sb 75 (oqA yk yr yn) := HNZ.out.of rfl
      have FZ : Fz W3.drew := HF.out.bel (PZ.tu.fz hlt0) hrb
      refine wp_region_held_drew (S := fun u => Bk u sb 75 (oqA yk yr yn) ∧ u.cell? ⟨rb, 2, none⟩ = some (.bool false)) (by kernel_rfl) ⟨NZ, PZ.rd.cell 2 rfl⟩ (fun hS => ?_)
      generalize W3.drew = W4 at *
      refine wpAnyH_take (i := 0) (v := .agg (oqA yk yr yn)) rfl (by kernel_rfl) (by kernel_rfl) (by kernel_rfl) (fun _ _ _ h => h) (Or.inl ⟨by kernel_rfl, fun u hu => exec_loadV (t := 75) (p := ⟨sb, 0, none⟩) rfl (by kernel_rfl) (load_op (o := ⟨yk, yr, yn⟩) hu.1)⟩) hS ?_
      simp only [Act.put, List.getElem_toArray, List.getElem_cons_succ, List.getElem_cons_zero, List.setIfInBounds_toArray, List.set_cons_zero, List.set_cons_succ]
      refine wpAnyH_take (i := 1) (v := .bool true) rfl (by kernel_rfl) (by kernel_rfl) (by kernel_rfl) (fun _ _ _ h => h) (Or.inl ⟨by kernel_rfl, fun u hu => by kernel_rfl⟩) hS ?_
      simp only [Act.put, List.getElem_toArray, List.getElem_cons_succ, List.getElem_cons_zero, List.setIfInBounds_toArray, List.set_cons_zero, List.set_cons_succ]
      refine wpAnyH_take (i := 2) (v := .bool true) rfl (by kernel_rfl) (by kernel_rfl) (by kernel_rfl) (fun _ _ _ h => h) (Or.inl ⟨by kernel_rfl, fun u hu => by kernel_rfl⟩) hS ?_
      simp only [Act.put, List.getElem_toArray, List.getElem_cons_succ, List.getElem_cons_zero, List.setIfInBounds_toArray, List.set_cons_zero, List.set_cons_succ]
      refine wpAnyH_take (i := 3) (v := .pointer (some ⟨rb, 0, none⟩)) rfl (by kernel_rfl) (by kernel_rfl) (by kernel_rfl) (fun _ _ _ h => h) (Or.inl ⟨by kernel_rfl, fun u hu => by kernel_rfl⟩) hS ?_
      simp only [Act.put, List.getElem_toArray, List.getElem_cons_succ, List.getElem_cons_zero, List.setIfInBounds_toArray, List.set_cons_zero, List.set_cons_succ]
      refine wpAnyH_take (i := 4) (v := .pointer (some ⟨rb, 0, none⟩)) rfl (by kernel_rfl) (by kernel_rfl) (by kernel_rfl) (fun _ _ _ h => h) (Or.inl ⟨by kernel_rfl, fun u hu => by kernel_rfl⟩) hS ?_
      simp only [Act.put, List.getElem_toArray, List.getElem_cons_succ, List.getElem_cons_zero, List.setIfInBounds_toArray, List.set_cons_zero, List.set_cons_succ]
      refine wpAnyH_take (i := 5) (v := .pointer (some ⟨rb, 2, none⟩)) rfl (by kernel_rfl) (by kernel_rfl) (by kernel_rfl) (fun _ _ _ h => h) (Or.inl ⟨by kernel_rfl, fun u hu => by kernel_rfl⟩) hS ?_
      simp only [Act.put, List.getElem_toArray, List.getElem_cons_succ, List.getElem_cons_zero, List.setIfInBounds_toArray, List.set_cons_zero, List.set_cons_succ]
      refine wpAnyH_take (i := 6) (v := .bool false) rfl (by kernel_rfl) (by kernel_rfl) (by kernel_rfl) (fun _ _ _ h => h) (Or.inl ⟨by kernel_rfl, fun u hu => exec_loadV (t := 4) (p := ⟨rb, 2, none⟩) rfl (by kernel_rfl) (load_bool hu.2)⟩) hS ?_
      simp only [Act.put, List.getElem_toArray, List.getElem_cons_succ, List.getElem_cons_zero, List.setIfInBounds_toArray, List.set_cons_zero, List.set_cons_succ]
      refine wpAnyH_take (i := 7) (v := .bool true) rfl (by kernel_rfl) (by kernel_rfl) (by kernel_rfl) (fun _ _ _ h => h) (Or.inl ⟨by kernel_rfl, fun u hu => by kernel_rfl⟩) hS ?_
      simp only [Act.put, List.getElem_toArray, List.getElem_cons_succ, List.getElem_cons_zero, List.setIfInBounds_toArray, List.set_cons_zero, List.set_cons_succ]
      refine wpAnyH_take (i := 8) (v := .bool true) rfl (by kernel_rfl) (by kernel_rfl) (by kernel_rfl) (fun _ _ _ h => h) (Or.inl ⟨by kernel_rfl, fun u hu => by kernel_rfl⟩) hS ?_
      simp only [Act.put, List.getElem_toArray, List.getElem_cons_succ, List.getElem_cons_zero, List.setIfInBounds_toArray, List.set_cons_zero, List.set_cons_succ]
      refine wpAnyH_take (i := 9) (v := .bool true) rfl (by kernel_rfl) (by kernel_rfl) (by kernel_rfl) (fun _ _ _ h => h) (Or.inl ⟨by kernel_rfl, fun u hu => by kernel_rfl⟩) hS ?_
      simp only [Act.put, List.getElem_toArray, List.getElem_cons_succ, List.getElem_cons_zero, List.setIfInBounds_toArray, List.set_cons_zero, List.set_cons_succ]
      refine wpAnyH_take (i := 10) (v := .agg (oqA yk yr yn)) rfl (by kernel_rfl) (by kernel_rfl) (by kernel_rfl) (fun _ _ _ h => h) (Or.inl ⟨by kernel_rfl, fun u hu => exec_loadV (t := 75) (p := ⟨sb, 0, none⟩) rfl (by kernel_rfl) (load_op (o := ⟨yk, yr, yn⟩) hu.1)⟩) hS ?_
      simp only [Act.put, List.getElem_toArray, List.getElem_cons_succ, List.getElem_cons_zero, List.setIfInBounds_toArray, List.set_cons_zero, List.set_cons_succ]
      refine wpAnyH_ready (rs := [11]) (by kernel_rfl) (by simp) ?_
      refine AllReadyH.cons rfl (fun K hK => ?_) AllReadyH.nil
      simp only [List.getElem_toArray, List.getElem_cons_succ, List.getElem_cons_zero]
      refine wp_if (by kernel_rfl) ?_
      refine wp_enter (f := 35) (args := #[.agg (oqA yk yr yn)]) (by kernel_rfl) (mayBe_any ⟨yk, yr, yn⟩ W4 FZ) ?_
      rintro e w6 ⟨rfl, hb6⟩
      refine ⟨_, rfl, ?_⟩
      have PZ := PZ.bel hb6
      have NZ := NZ.bel hb6 NZ.lt
      refine hK.out _ _ ⟨NZ, PZ.rd.cell 2 rfl⟩ (fun hS => ?_)
      clear hK hb6 FZ
      generalize hmb : mayB ⟨yk, yr, yn⟩ = mb at *
      simp only [Act.put, List.getElem_toArray, List.getElem_cons_succ, List.getElem_cons_zero, List.setIfInBounds_toArray, List.set_cons_zero, List.set_cons_succ]
      refine wpAnyH_take (i := 12) (v := .bool mb) rfl (by kernel_rfl) (by kernel_rfl) (by kernel_rfl) (fun _ _ _ h => h) (Or.inl ⟨by kernel_rfl, fun u hu => by kernel_rfl⟩) hS ?_
      simp only [Act.put, List.getElem_toArray, List.getElem_cons_succ, List.getElem_cons_zero, List.setIfInBounds_toArray, List.set_cons_zero, List.set_cons_succ]
      have _u := PZ
      refine wpAnyH_ready (rs := [13]) (by kernel_rfl) (by simp) ?_
      refine AllReadyH.cons rfl (fun K hK => ?_) AllReadyH.nil
      simp only [List.getElem_toArray, List.getElem_cons_succ, List.getElem_cons_zero]
      refine wp_if (by kernel_rfl) ?_
      refine wp_part (g := w.heap.size) (off := 0) (val := .agg (oqA yk yr yn)) (new := oqA yk yr yn) rfl (by kernel_rfl) (by kernel_rfl) PZ.blk (by rw [sizeOp]; rfl) (by show 0 + 3 ≤ 3; omega) (oqA_one _ _ _) rfl ?_
      have HZ := PZ.put (oqA yk yr yn)
      refine hK.out _ _ ⟨NZ.setO (Ne.symm hgs) _, HZ.1.cell 2 rfl⟩ (fun hS => ?_)
      clear hK
      simp only [Act.put, List.getElem_toArray, List.getElem_cons_succ, List.getElem_cons_zero, List.setIfInBounds_toArray, List.set_cons_zero, List.set_cons_succ]
      refine wpAnyH_take (i := 14) (v := .bool mb) rfl (by kernel_rfl) (by kernel_rfl) (by kernel_rfl) (fun _ _ _ h => h) (Or.inl ⟨by kernel_rfl, fun u hu => by kernel_rfl⟩) hS ?_
      simp only [Act.put, List.getElem_toArray, List.getElem_cons_succ, List.getElem_cons_zero, List.setIfInBounds_toArray, List.set_cons_zero, List.set_cons_succ]
      refine wpAnyH_done (by kernel_rfl) ?_ _
      generalize w6.setRow w.heap.size (oqA yk yr yn) = W5 at *
      clear hS
      go_wp2_with fail
      (try simp only [Exit.inBlock, Exit.then])
      refine bodyPost_ret (results_ct rfl rfl (load_op (o := ⟨yk, yr, yn⟩) HZ.2.2)) rfl ?_
      exact ⟨by rw [← hmb]; rfl, HZ.1, HZ.2.1⟩
theorem pop_any (rb : Nat) (ao : Option Addr) (len cap t : Nat) (bs : Nat → Int) (w : World) (h : PD w rb (.slice ao len cap) (t : Int) false) (hr : Row w ao len bs) (hna : 0 < len → ∀ b off, ao = some ⟨b, off, none⟩ → b ≠ rb) (hbs : ∀ i, 0 ≤ bs i ∧ bs i < 256) (hl : len ≤ 1048576) (ht : t < len) (hf : Fz w) (hrb : 0 < rb) :
    Calls Tryd.prog 39 #[.pointer (some ⟨rb, 0, none⟩)] w fun e w' => OE (opP len bs t) w w' rb (.slice ao len cap) e := by
  by_cases k1 : 192 ≤ bs t
  · exact op_a rb ao len cap t bs w h hr hna hbs hl ht hf hrb k1
  by_cases k2 : 128 ≤ bs t
  · exact op_b rb ao len cap t bs w h hr hna hbs hl ht hf hrb k1 k2
  by_cases k3 : 64 ≤ bs t
  · exact op_c rb ao len cap t bs w h hr hna hbs hl ht hf hrb k1 k2 k3
  · exact op_d rb ao len cap t bs w h hr hna hbs hl ht hf hrb k1 k2 k3
end Go.Proofs.YtgldijohpfihaaaDoor
