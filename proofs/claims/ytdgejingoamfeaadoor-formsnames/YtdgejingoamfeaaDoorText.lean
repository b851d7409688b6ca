/- The contract of Text, of an instruction that may be. -/
import Derived.Test.YtdgejingoamfeaaDoorOpd
import Derived.Test.YtdgejingoamfeaaDoorName2
import Derived.Test.YtdgejingoamfeaaDoorCheck
namespace Go.Proofs.YtdgejingoamfeaaDoor
open Go.ChangeShapes Go.WideShapes Go.ChangeAt Go.RowKit
set_option linter.unusedVariables false

/-- A load in a region that draws, whose value is known. -/
theorem yields_load {ops : Array Oper} {S : World → Prop} {o : Oper} {a : Act} {t : TypeId} {x : Operand} {p : Addr} {v : Value} (ho : o.op = .load t x) (hw : Region.wanted o (yielded ops a.tmps) = true)
    (hx : a.eval x = .pointer (some p)) (hl : ∀ w, S w → (loadVar t p).run Tryd.prog w = .ok v w) : YieldsIf Tryd.prog ops S o v a :=
  Or.inl ⟨hw, fun w hS => by
    unfold execOp
    simp only [ho, hx, Instr.loadAt, Instr.sureAddr, Sem.run_bind, Sem.run_pure, Result.andThen_ok, hl w hS]⟩

/-- A call in a region that draws. -/
theorem wp_of_enter {o : Oper} {a : Act} {w : World} {K : Act → World → Prop} {Q : Exit → Act → World → Prop} {f : FuncId} {args : Array Value} {R : Ending → World → Prop}
    (hx : (execOp a.eval o).run Tryd.prog w = .ok (.enter f args) w) (hc : Calls Tryd.prog f args w R) (h : ∀ e w', R e w' → ∃ v, e = .returned v ∧ K (a.put o.dst v) w') : o.wp Tryd.prog a w K Q := by
  unfold Oper.wp
  rw [hx, Oper.upon_enter]
  refine hc.mono ?_
  intro e w' hr
  obtain ⟨v, rfl, hk⟩ := h e w' hr
  exact hk

theorem two0 (f t : ByteArray) (w : World) : (Instr.index 47 (.agg #[.string f, .string t]) (.int .i64 0)).run Tryd.prog w = .ok (.string f) w := by kernel_rfl
theorem two1 (f t : ByteArray) (w : World) : (Instr.index 47 (.agg #[.string f, .string t]) (.int .i64 1)).run Tryd.prog w = .ok (.string t) w := by kernel_rfl

theorem ret_si {a b : ByteArray} {e : Int} (h : a = b) : Ending.returned (.tuple #[.string a, .int .i64 e]) = .returned (.tuple #[.string b, .int .i64 e]) := by rw [h]

def spS : ByteArray := ⟨#[32]⟩
def cmS : ByteArray := ⟨#[44, 32]⟩

/-- The parts behind one another. -/
def joinV (n f t : ByteArray) : ByteArray :=
  if empB f then (if empB t then n else n ++ (⟨#[32]⟩ ++ t)) else (if empB t then n ++ (⟨#[32]⟩ ++ f) else n ++ (⟨#[32]⟩ ++ f) ++ (⟨#[44, 32]⟩ ++ t))
def headV (i : I) : ByteArray := if i.sh then nameV i.op i.sz i.cd ++ ⟨#[32, 115, 104, 111, 114, 116]⟩ else nameV i.op i.sz i.cd
def textV (i : I) : ByteArray := joinV (headV i) (fromV i) (toV i)

theorem fromV_size (i : I) (h : TOk i.fr) : (fromV i).size ≤ 400 := opdV_size _ _ h
theorem toV_size (i : I) (h : TOk i.to) : (toV i).size ≤ 401 := by
  have h1 := opdV_size i.to i.sz h
  have k : (⟨#[42]⟩ : ByteArray).size = 1 := rfl
  unfold toV
  split
  · rw [ByteArray.size_append]; omega
  · omega

set_option maxHeartbeats 4000000 in
set_option maxRecDepth 4000 in
theorem text_yes (i : I) (w : World) (hw : Gp w) (hc : checkB i = true) (h1 : TOk i.to) (h2 : TOk i.fr) (b : Bool) (HSH : Hid (i.sh = b)) :
    Calls Tryd.prog 9 #[i.val] w fun e w' => e = .returned (.tuple #[.string (textV i), .int .i64 0]) ∧ Below w.heap.size w w' := by
  have C0 : Hid (∀ v, Below w.heap.size w v → Calls Tryd.prog 12 #[.agg #[.int .i64 i.op, .int .i64 i.sz, .int .i64 i.cd, .int .i64 i.to.k, .int .i64 i.to.r, .int .i64 i.to.b, .int .i64 i.to.x, .int .i64 i.to.s, .bool i.to.rip, .bool i.to.fs, .int .i64 i.to.n, .string i.to.nm, .int .i64 i.to.m, .int .i64 i.fr.k, .int .i64 i.fr.r, .int .i64 i.fr.b, .int .i64 i.fr.x, .int .i64 i.fr.s, .bool i.fr.rip, .bool i.fr.fs, .int .i64 i.fr.n, .string i.fr.nm, .int .i64 i.fr.m, .bool i.sh]] v fun e w' => e = .returned (.int .i64 0) ∧ Below v.heap.size v w') := ⟨fun v hv => by have := check_any i v (hw.g.bel hv); rw [hc] at this; exact this⟩
  have C1 : Hid (∀ v, Below w.heap.size w v → Calls Tryd.prog 19 #[.int .i64 i.op, .int .i64 i.sz, .int .i64 i.cd] v fun e w' => e = .returned (.string (nameV i.op i.sz i.cd)) ∧ Below v.heap.size v w') := ⟨fun v hv => name_any _ _ _ v (hw.g.bel hv)⟩
  have C2 : Hid (∀ v, Gp v → Calls Tryd.prog 27 #[.agg #[.int .i64 i.op, .int .i64 i.sz, .int .i64 i.cd, .int .i64 i.to.k, .int .i64 i.to.r, .int .i64 i.to.b, .int .i64 i.to.x, .int .i64 i.to.s, .bool i.to.rip, .bool i.to.fs, .int .i64 i.to.n, .string i.to.nm, .int .i64 i.to.m, .int .i64 i.fr.k, .int .i64 i.fr.r, .int .i64 i.fr.b, .int .i64 i.fr.x, .int .i64 i.fr.s, .bool i.fr.rip, .bool i.fr.fs, .int .i64 i.fr.n, .string i.fr.nm, .int .i64 i.fr.m, .bool i.sh]] v fun e w' => e = .returned (.string (fromV i)) ∧ Below v.heap.size v w') := ⟨fun v hv => fromText_any i v h2 hv⟩
  have C3 : Hid (∀ v, Gp v → Calls Tryd.prog 28 #[.agg #[.int .i64 i.op, .int .i64 i.sz, .int .i64 i.cd, .int .i64 i.to.k, .int .i64 i.to.r, .int .i64 i.to.b, .int .i64 i.to.x, .int .i64 i.to.s, .bool i.to.rip, .bool i.to.fs, .int .i64 i.to.n, .string i.to.nm, .int .i64 i.to.m, .int .i64 i.fr.k, .int .i64 i.fr.r, .int .i64 i.fr.b, .int .i64 i.fr.x, .int .i64 i.fr.s, .bool i.fr.rip, .bool i.fr.fs, .int .i64 i.fr.n, .string i.fr.nm, .int .i64 i.fr.m, .bool i.sh]] v fun e w' => e = .returned (.string (toV i)) ∧ Below v.heap.size v w') := ⟨fun v hv => toText_any i v h1 hv⟩
  have L0 : Hid (∀ v, IA v w.heap.size i → (loadVar 25 ⟨w.heap.size, 0, none⟩).run Tryd.prog v = .ok i.val v) := ⟨fun v h => h.whole⟩
  have HW : Hid (Gp w) := ⟨hw⟩
  have HR : Hid (textV i = joinV (if b then nameV i.op i.sz i.cd ++ ⟨#[32, 115, 104, 111, 114, 116]⟩ else nameV i.op i.sz i.cd) (fromV i) (toV i)) := ⟨by unfold textV headV; rw [HSH.out]⟩
  have z1 := nameV_size i.op i.sz i.cd
  have z2 := fromV_size i h2
  have z3 := toV_size i h1
  generalize textV i = tx at *
  generalize nameV i.op i.sz i.cd = n at *
  generalize fromV i = f at *
  generalize toV i = t at *
  obtain ⟨ef, hef⟩ : ∃ x, f.toList.isEmpty = x := ⟨_, rfl⟩
  obtain ⟨et, het⟩ : ∃ x, t.toList.isEmpty = x := ⟨_, rfl⟩
  have HJ : Hid (∀ m, joinV m f t = if ef then (if et then m else m ++ (⟨#[32]⟩ ++ t)) else (if et then m ++ (⟨#[32]⟩ ++ f) else m ++ (⟨#[32]⟩ ++ f) ++ (⟨#[44, 32]⟩ ++ t))) := ⟨fun m => by unfold joinV empB; rw [hef, het]⟩
  unfold I.val at *
  clear hw hc h1 h2
  have x0 := two0 f t
  have x1 := two1 f t
  rcases b with _ | _ <;> rcases ef with _ | _ <;> rcases et with _ | _
  all_goals
    go_enter Tryd.func9, Tryd.ntmps9
    go_wp2_with (first
      | (refine wpList_load_of (t := 25) rfl (by kernel_rfl) (by kernel_rfl) (L0.out _ (IA.new w i 25)) ?_)
      | (go_at_call 12; refine (C0.out _ (bel_alloc (Below.refl _ _) _)).mono ?_; rintro e w1 ⟨rfl, hb1⟩; have B1 : Hid (Below w.heap.size w w1) := ⟨bel_trans (bel_alloc (Below.refl _ _) _) hb1⟩; have A1 : Hid (IA w1 w.heap.size i) := ⟨(IA.new w i 25).bel hb1⟩; clear hb1; obtain ⟨p0, p1, p2, p3, p4, p5, p6, p7, p8, p9, p10, p11, p12, p13, p14, p15, p16, p17, p18, p19, p20, p21, p22, p23⟩ := A1.out)
      | (go_at_call 19; refine (C1.out _ B1.out).mono ?_; rintro e w2 ⟨rfl, hb2⟩; have B2 : Hid (Below w.heap.size w w2) := ⟨bel_trans B1.out hb2⟩; have A2 : Hid (IA w2 w.heap.size i) := ⟨A1.out.bel hb2⟩; clear p0 p1 p2 p3 p4 p5 p6 p7 p8 p9 p10 p11 p12 p13 p14 p15 p16 p17 p18 p19 p20 p21 p22 p23; clear hb2; obtain ⟨p0, p1, p2, p3, p4, p5, p6, p7, p8, p9, p10, p11, p12, p13, p14, p15, p16, p17, p18, p19, p20, p21, p22, p23⟩ := A2.out; rw [HSH.out] at p23))
    refine wp_region_held_drew (S := fun v => IA v w.heap.size i ∧ Gp v ∧ Below w.heap.size w v) (by kernel_rfl) ⟨A2.out.bel (bel_drew _), HW.out.bel (B2.out.drew), B2.out.drew⟩ (fun hHeld => ?_)
    refine wpAnyH_take (i := 0) rfl (by kernel_rfl) (by kernel_rfl) (by kernel_rfl) (fun _ _ _ h => h) (yields_load (t := 25) (p := ⟨w.heap.size, 0, none⟩) rfl (by kernel_rfl) (by kernel_rfl) (fun v h => L0.out v h.1)) hHeld ?_
    refine wpAnyH_take (i := 2) rfl (by kernel_rfl) (by kernel_rfl) (by kernel_rfl) (fun _ _ _ h => h) (yields_load (t := 25) (p := ⟨w.heap.size, 0, none⟩) rfl (by kernel_rfl) (by kernel_rfl) (fun v h => L0.out v h.1)) hHeld ?_
    refine wpAnyH_take (i := 5) (v := .int .i64 0) rfl (by kernel_rfl) (by kernel_rfl) (by kernel_rfl) (fun _ _ _ h => h) (Or.inl ⟨by kernel_rfl, fun v _ => by kernel_rfl⟩) hHeld ?_
    refine wpAnyH_ready (rs := [1]) (by kernel_rfl) (by simp) ?_
    refine AllReadyH.cons rfl (fun K hK => ?_) AllReadyH.nil
    rw [if_pos (by kernel_rfl)]
    refine wp_of_enter (f := 27) (by kernel_rfl) (C2.out _ hHeld.2.1) ?_
    rintro e w3 ⟨rfl, hb3⟩
    refine ⟨_, rfl, hK.out _ _ ⟨hHeld.1.bel hb3, hHeld.2.1.bel hb3, bel_trans hHeld.2.2 hb3⟩ (fun hH3 => ?_)⟩
    clear hK
    refine wpAnyH_ready (rs := [3]) (by kernel_rfl) (by simp) ?_
    refine AllReadyH.cons rfl (fun K hK => ?_) AllReadyH.nil
    rw [if_pos (by kernel_rfl)]
    refine wp_of_enter (f := 28) (by kernel_rfl) (C3.out _ hH3.2.1) ?_
    rintro e w4 ⟨rfl, hb4⟩
    refine ⟨_, rfl, hK.out _ _ ⟨hH3.1.bel hb4, hH3.2.1.bel hb4, bel_trans hH3.2.2 hb4⟩ (fun hH4 => ?_)⟩
    clear hK
    refine wpAnyH_take (i := 4) (v := .agg #[.string f, .string t]) rfl (by kernel_rfl) (by kernel_rfl) (by kernel_rfl) (fun _ _ _ h => h) (Or.inl ⟨by kernel_rfl, fun v _ => by kernel_rfl⟩) hH4 ?_
    refine wpAnyH_done (by kernel_rfl) ?_ _
    simp only [Act.put, List.getElem_toArray, List.getElem_cons_succ, List.getElem_cons_zero, List.setIfInBounds_toArray, List.set_cons_zero, List.set_cons_succ]
    have HX := hid hH4
    clear hH4 hH3 hHeld hb3 hb4
    go_wp2
    refine wp_loop_rounds 3 ?_
    repeat (rw [rounds_succ]; go_wp2)
    go_ret2
    refine ⟨ret_si ?_, HX.out.2.2⟩
    rw [HR.out, HJ.out]
    first | rfl | simp
end Go.Proofs.YtdgejingoamfeaaDoor
