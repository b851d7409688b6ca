/- The reader: applyTwo. -/
import Derived.Test.YtljmbgflcidokaaGreatDoorXRd2
import Derived.Deep.Cut
import Derived.Deep.CutRange
import Derived.Deep.RegionWith
namespace Go.Proofs.YtljmbgflcidokaaGreatDoor
open Go.ChangeShapes Go.WideShapes Go.ChangeAt Go.RowKit Go.Maps
set_option linter.unusedVariables false
set_option linter.unusedSimpArgs false

/-- A value and an error, as a call hands them back. -/
abbrev vT (v : Vx) (er : Int) : Value := .tuple #[.agg #[.string v.p, .string v.m, .int .i64 v.n], .int .i64 er]
/-- How a step ends. -/
def SE (m : Res) (g : Gx) (dep : Nat) (w : World) (e : Ending) (w' : World) : Prop :=
  match m with
  | .error er => (∃ v, e = .returned (vT v er)) ∧ ¬ er = 0 ∧ TX g.rb w w' ∧ ∃ x y, w'.cell? ⟨g.rb, 1, none⟩ = some (.int .i64 x) ∧ w'.cell? ⟨g.rb, 2, none⟩ = some (.int .i64 y) ∧ ∀ j, w'.frozen? ⟨g.rb, j, none⟩ = false
  | .ok (v, b) => e = .returned (vT v 0) ∧ v.Ok ∧ TX g.rb w w' ∧ ∃ ask pv, RX g w' b dep ask pv
/-- A step's call. -/
def StepC (g : Gx) (J : Nat) (args : Array Value) (d : Nat) (f : Nat → Res) : Prop :=
  ∀ (w : World) (a dep ask : Nat) (pv : Value), RX g w a dep ask pv → dep + d = 50 → a ≤ g.L.length → Calls Tryz.prog J args w fun e w' => SE (f a) g dep w e w'

/-- An operator lies in a block. -/
structure OB (w : World) (B : Nat) (lv : Int) (fv : Value) : Prop where
  c0 : w.cell? ⟨B, 0, none⟩ = some (.int .i64 lv)
  c1 : w.cell? ⟨B, 1, none⟩ = some fv
theorem OB.turn {w w' : World} {B : Nat} {lv : Int} {fv : Value} (h : OB w B lv fv) {S : Nat → Prop} (ht : Turn S w w') (hS : ¬ S B) : OB w' B lv fv := by
  have hlt : B < w.heap.size := World.block_lt_of_cell? w ⟨B, 0, none⟩ h.c0
  have e : ∀ o, w'.cell? ⟨B, o, none⟩ = w.cell? ⟨B, o, none⟩ := fun o => World.cell?_of_block (ht.block B hlt hS)
  exact ⟨(e _).trans h.c0, (e _).trans h.c1⟩
theorem OB.new (w : World) (lv : Int) (fv : Value) : OB (w.alloc (.cells #[.int .i64 lv, fv] 82)) w.heap.size lv fv := ⟨by simp, by simp⟩

/-- What stands behind the operator's look-up. -/
structure AP (g : Gx) (w wx : World) (B : Nat) (lv : Int) (fv : Value) (v : Vx) (a dep ask : Nat) (pv : Value) : Prop where
  rx : RX g wx a dep ask pv
  tx : TX g.rb w wx
  v4 : VB wx w.heap.size v.p v.m v.n
  v6 : VB wx (w.heap.size + 1) ⟨#[]⟩ ⟨#[]⟩ 0
  ob : OB wx B lv fv
  hB : w.heap.size + 2 ≤ B

section
variable {g : Gx} {w w' : World} {a dep ask : Nat} {pv : Value}
theorem keepA {u : World} {x : Value} {i : Sem Value} {r : Value} {rb : Nat} (h1 : u.cell? ⟨rb, 6, none⟩ = some x) (h2 : Sem.run Tryz.prog i u = .ok r u) : u.cell? ⟨rb, 6, none⟩ = some x ∧ Sem.run Tryz.prog i u = .ok r u := ⟨h1, h2⟩
theorem store_fn2 (fv : Value) (v : World) (B : Nat) (x : Value) (hc : v.cell? ⟨B, 1, none⟩ = some x) (hz : v.frozen? ⟨B, 1, none⟩ = false) (hf : fv.oneCell' = true) : Sem.run Tryz.prog (store ⟨B, 1, none⟩ fv) v = .ok () (v.setCell ⟨B, 1, none⟩ fv) := by
  rw [run_store Tryz.prog _ _ _ _ hf, hc]
  simp [hz]

/-- What applyTwo answers. -/
def applyM (t : List UInt8) (v : Vx) (m : Res) : Res :=
  match m with
  | .error e => .error e
  | .ok (x, b) => match twoV t v x with | none => .error 110 | some y => .ok (y, b)
/-- The block of a result, behind a step. -/
theorem VB.tx {u : World} {B rb : Nat} {p m : ByteArray} {n : Int} (h : VB w B p m n) (ht : TX rb w u) (hB : ¬ B = rb) : VB u B p m n := h.turn ht hB
theorem opF_one (mb j : Nat) : (opF mb j).oneCell' = true := by
  unfold opF
  split
  · rfl
  · split <;> rfl
theorem apply_calls {W : World} {mb j : Nat} (h : OpM W mb) (hj : j < 9) (a b : Vx) (ha : a.Ok) (hb : b.Ok) : (j < 7 → Calls Tryz.prog 68 #[.agg #[.string a.p, .string a.m, .int .i64 a.n], .agg #[.string b.p, .string b.m, .int .i64 b.n], .pointer (some ⟨mb + 1 + j, 0, none⟩)] W fun e w' => e = .returned (vE (opG j a b)) ∧ Below W.heap.size W w') ∧ (j = 7 → Calls Tryz.prog 15 #[.agg #[.string a.p, .string a.m, .int .i64 a.n], .agg #[.string b.p, .string b.m, .int .i64 b.n]] W fun e w' => e = .returned (vE (opG j a b)) ∧ Below W.heap.size W w') ∧ (j = 8 → Calls Tryz.prog 17 #[.agg #[.string a.p, .string a.m, .int .i64 a.n], .agg #[.string b.p, .string b.m, .int .i64 b.n]] W fun e w' => e = .returned (vE (opG j a b)) ∧ Below W.heap.size W w') :=
  ⟨fun h7 => apply_num h h7 a b, fun h7 => by subst h7; exact add_any a b ha hb W, fun h7 => by subst h7; exact sub_any a b ha hb W⟩
theorem new_ob {v0 w1 : World} {rb : Nat} (h : TX rb (v0.alloc (.cells #[.int .i64 0, .nilFunc] 82)).drew w1) (hlt : rb < v0.heap.size) : w1.cell? ⟨v0.heap.size, 0, none⟩ = some (.int .i64 0) ∧ w1.cell? ⟨v0.heap.size, 1, none⟩ = some .nilFunc ∧ v0.heap.size < w1.heap.size ∧ ∀ j, w1.frozen? ⟨v0.heap.size, j, none⟩ = false := by
  have hb := h.block v0.heap.size (by simp) (by omega)
  refine ⟨(World.cell?_of_block hb).trans ?_, (World.cell?_of_block hb).trans ?_, ?_, fun j => (World.frozen?_of_block (w := (v0.drew.alloc (.cells #[.int .i64 0, .nilFunc] 82))) hb).trans ?_⟩
  · exact (OB.new v0.drew 0 .nilFunc).c0
  · exact (OB.new v0.drew 0 .nilFunc).c1
  · have := h.size; simp at this; omega
  · simp only [World.frozen?]; rw [show v0.heap.size = v0.drew.heap.size from rfl, heap_alloc_new]; rfl
theorem AP.one {v0 w1 : World} {lv : Int} {fv : Value} {v : Vx} (h4 : VB v0 w.heap.size v.p v.m v.n) (h6 : VB v0 (w.heap.size + 1) ⟨#[]⟩ ⟨#[]⟩ 0) (tx : TX g.rb w v0) (hz : v0.heap.size = w.heap.size + 2) (hrb : g.rb < w.heap.size) (X1 : RX g w1 (a + 1) dep ask pv) (T1 : TX g.rb v0.drew w1) :
    AP g w (w1.alloc (.cells #[.int .i64 lv, fv] 82)) w1.heap.size lv fv v (a + 1) dep ask pv := by
  have td : TX g.rb v0 v0.drew := (Turn.refl _ v0).drewN 1
  have hs := T1.size
  have hs' : v0.heap.size ≤ w1.heap.size := hs
  exact ⟨X1.alloc _, ((tx.trans td).trans T1).alloc _, ((h4.turn td (by omega)).turn T1 (by omega)).alloc _, ((h6.turn td (by omega)).turn T1 (by omega)).alloc _, OB.new _ _ _, by omega⟩
theorem AP.two {v0 w1 : World} {lv : Int} {fv : Value} {v : Vx} (h4 : VB v0 w.heap.size v.p v.m v.n) (h6 : VB v0 (w.heap.size + 1) ⟨#[]⟩ ⟨#[]⟩ 0) (tx : TX g.rb w v0) (hz : v0.heap.size = w.heap.size + 2) (hrb : g.rb < w.heap.size) (X1 : RX g ((w1.setCell ⟨v0.heap.size, 0, none⟩ (.int .i64 lv)).setCell ⟨v0.heap.size, 1, none⟩ fv) (a + 1) dep ask pv)
    (T1 : TX g.rb (v0.alloc (.cells #[.int .i64 0, .nilFunc] 82)).drew w1) (o0 : w1.cell? ⟨v0.heap.size, 0, none⟩ = some (.int .i64 0)) (o1 : w1.cell? ⟨v0.heap.size, 1, none⟩ = some .nilFunc) :
    AP g w ((w1.setCell ⟨v0.heap.size, 0, none⟩ (.int .i64 lv)).setCell ⟨v0.heap.size, 1, none⟩ fv) v0.heap.size lv fv v (a + 1) dep ask pv := by
  have td : TX g.rb v0 (v0.alloc (.cells #[.int .i64 0, .nilFunc] 82)).drew := ((Turn.refl _ v0).alloc _).drewN 1
  refine ⟨X1, Turn.setNew (Turn.setNew ((tx.trans td).trans T1) ⟨v0.heap.size, 0, none⟩ (by dsimp only; omega) _) ⟨v0.heap.size, 1, none⟩ (by dsimp only; omega) _, ?_, ?_, ⟨by simp [go_sem, o0], by simp [go_sem, o1]⟩, by omega⟩
  · exact (((h4.turn td (by omega)).turn T1 (by omega)).setAt _ 0 (by omega) _).setAt _ 1 (by omega) _
  · exact (((h6.turn td (by omega)).turn T1 (by omega)).setAt _ 0 (by omega) _).setAt _ 1 (by omega) _
theorem set3_cell {u : World} {B : Nat} {x y z : Value} {ad : Addr} {t : Value} (ha : ¬ ad.block = B) (h : u.cell? ad = some t) : (((u.setCell ⟨B, 0, none⟩ x).setCell ⟨B, 1, none⟩ y).setCell ⟨B, 2, none⟩ z).cell? ad = some t :=
  up_set (up_set (up_set h ha) ha) ha
theorem set3_fz (u : World) (B : Nat) (x y z : Value) (ad : Addr) : (((u.setCell ⟨B, 0, none⟩ x).setCell ⟨B, 1, none⟩ y).setCell ⟨B, 2, none⟩ z).frozen? ad = u.frozen? ad :=
  ((World.frozen?_setCell _ _ _ _).trans (World.frozen?_setCell _ _ _ _)).trans (World.frozen?_setCell _ _ _ _)
theorem fz_alloc {u : World} {b jj : Nat} {o : Obj} (hb : b < u.heap.size) (h : u.frozen? ⟨b, jj, none⟩ = false) : (u.alloc o).frozen? ⟨b, jj, none⟩ = false :=
  (World.frozen?_of_block (w := u) ((bel_alloc (Below.refl _ _) o).block b hb)).trans h
theorem vE_any (M : Option Vx) : ∃ x er, vE M = vT x er ∧ ((∃ y, M = some y ∧ x = y ∧ er = 0) ∨ (M = none ∧ er = 110)) := by
  cases M with
  | none => exact ⟨⟨⟨#[]⟩, ⟨#[]⟩, 0⟩, 110, vE_none, .inr ⟨rfl, rfl⟩⟩
  | some v => exact ⟨v, 0, vE_some v.p v.m v.n, .inl ⟨v, rfl, rfl, rfl⟩⟩

set_option maxHeartbeats 4000000 in
set_option maxRecDepth 10000 in
theorem xapply_0 (h : RX g w a dep ask pv) (ha : a ≤ 9007199254740992) (j : Nat) (hj : j < 9) (hs : (tk g.L a).t = sgn j) (htv : ∀ x y, twoV (tk g.L a).t x y = opG j x y) (v : Vx) (hv : v.Ok) (d : Nat) (f : Nat → Res) (hd : dep + d = 50) (hal : a + 1 ≤ g.L.length) (hC : StepC g 36 #[.pointer (some ⟨g.rb, 0, none⟩)] d f) :
    Calls Tryz.prog 65 #[.pointer (some ⟨g.rb, 0, none⟩), .agg #[.string v.p, .string v.m, .int .i64 v.n], .func (.func 36) #[.pointer (some ⟨g.rb, 0, none⟩)] #[]] w fun e w' => SE (applyM (tk g.L a).t v (f (a + 1))) g dep w e w' := by
  have HN : Hid (∀ W, RX g W a dep ask pv → Calls Tryz.prog 84 #[.pointer (some ⟨g.rb, 0, none⟩)] W fun e w' => e = .returned (.agg #[.int .i64 (g.L.getD a TL.none).1.k, .int .i64 (g.L.getD a TL.none).2, .int .i64 (g.L.getD a TL.none).1.n, .string (St (g.L.getD a TL.none).1.t)]) ∧ RX g w' (a + 1) dep ask pv ∧ TX g.rb W w') := ⟨fun W hW => xnext_any hW ha⟩
  have ht := ot_at h
  have HW : Hid _ := ⟨h⟩
  have hrb := h.lt
  have HC : Hid (∀ W, RX g W (a + 1) dep ask pv → Calls Tryz.prog 36 #[.pointer (some ⟨g.rb, 0, none⟩)] W fun e w' => SE (f (a + 1)) g dep W e w') := ⟨fun W hW => hC W (a + 1) dep ask pv hW hd hal⟩
  have HJ : Hid (j < 9) := ⟨hj⟩
  obtain ⟨M, HM⟩ : ∃ M, Hid (applyM (tk g.L a).t v (f (a + 1)) = M) := ⟨_, ⟨rfl⟩⟩
  rw [HM.out]
  have HT : Hid _ := ⟨htv⟩
  unfold tk at hs
  have HL : Hid (∀ u, OpM u g.mb → Sem.run Tryz.prog (Instr.lookup 66 (.map (some g.mb)) (.string (St (g.L.getD a TL.none).1.t)) false) u = .ok (.agg #[.int .i64 ((opsL.getD j ([], 0, addV)).2.1 : Int), opF g.mb j]) u) := ⟨fun u hu => look_one hu ht hj hs⟩
  have hof := opF_one g.mb j
  have HO : Hid (opF g.mb j = opF g.mb j) := ⟨rfl⟩
  clear hC htv ht hs h hj hal
  generalize ((opsL.getD j ([], 0, addV)).2.1 : Int) = lv at *
  generalize hpp : g.L.getD a TL.none = p at *
  clear hpp
  have hfld : ∀ (x y z : Int) (t : ByteArray) (u : World), (Instr.field 37 (.agg #[.int .i64 x, .int .i64 y, .int .i64 z, .string t]) 3).run Tryz.prog u = .ok (.string t) u := by intros; kernel_rfl
  generalize hfv : opF g.mb j = fv at *
  have HF : Hid _ := ⟨hfv⟩
  clear hfv HO
  go_enter Tryz.func65, Tryz.ntmps65
  go_upto_region 1 with (fail)
  have V4 : VB ((w.alloc (.cells #[.string v.p, .string v.m, .int .i64 v.n] 27)).alloc zV) w.heap.size v.p v.m v.n := (VB.new w _ _ _).alloc zV
  have V6 : VB ((w.alloc (.cells #[.string v.p, .string v.m, .int .i64 v.n] 27)).alloc zV) (w.heap.size + 1) ⟨#[]⟩ ⟨#[]⟩ 0 := VB.at _ _ _ _ _ (by simp)
  have B0 : Below w.heap.size w ((w.alloc (.cells #[.string v.p, .string v.m, .int .i64 v.n] 27)).alloc zV) := bel_alloc (bel_alloc (Below.refl _ _) _) _
  have hz0 : ((w.alloc (.cells #[.string v.p, .string v.m, .int .i64 v.n] 27)).alloc zV).heap.size = w.heap.size + 2 := by simp
  generalize (w.alloc (.cells #[.string v.p, .string v.m, .int .i64 v.n] 27)).alloc zV = v0 at *
  have HZ0 : Hid _ := ⟨hz0⟩
  clear hz0
  have X0 := HW.out.bel B0
  have HX0 : Hid _ := ⟨X0⟩
  have HV0 : Hid (VB v0 w.heap.size v.p v.m v.n ∧ VB v0 (w.heap.size + 1) ⟨#[]⟩ ⟨#[]⟩ 0 ∧ TX g.rb w v0) := ⟨V4, V6, Turn.of_below B0 _⟩
  clear X0 V4 V6 B0
  go_cut [8] from 11 to 18 (fun s8 wx => ∃ B, s8 = .pointer (some ⟨B, 0, none⟩) ∧ Hid (AP g w wx B lv fv v (a + 1) dep ask pv))
  case first =>
    have c6 := HX0.out.drew.c6
    have l3 := HL.out v0.drew HX0.out.drew.op
    go_region_held3 (fun u => u.cell? ⟨g.rb, 6, none⟩ = some (.map (some g.mb)) ∧ Sem.run Tryz.prog (Instr.lookup 66 (.map (some g.mb)) (.string (St p.1.t)) false) u = .ok (.agg #[.int .i64 lv, fv]) u)
      (first | (with_reducible assumption) | (with_reducible exact ⟨c6, l3⟩) | (with_reducible exact ⟨X1.c6, HL.out _ X1.op⟩) | (with_reducible exact ⟨X1s.c6, HL.out _ X1s.op⟩) | (with_reducible exact ⟨((HX0.out.alloc _).drew).c6, HL.out _ ((HX0.out.alloc _).drew).op⟩) | (with_reducible exact ⟨(HX0.out.drew.alloc _).c6, HL.out _ (HX0.out.drew.alloc _).op⟩) | (with_reducible exact ⟨(X1.alloc _).c6, HL.out _ (X1.alloc _).op⟩))
      (first
        | (go_at_call 84; (with_reducible refine (HN.out _ HX0.out.drew).mono ?_); rintro e w1 ⟨rfl, X1, T1⟩; have HST := store_fn lv fv w1 w1.heap.size rfl hof; have M1 := True.intro)
        | (go_at_call 84; (with_reducible refine (HN.out _ (HX0.out.alloc _).drew).mono ?_); rintro e w1 ⟨rfl, X1, T1⟩; have M2 := True.intro; obtain ⟨o0, o1, o2, oz⟩ := new_ob (v0 := v0) T1 (HX0.out.lt); have HST := store_fn2 fv (w1.setCell ⟨v0.heap.size, 0, none⟩ (.int .i64 lv)) v0.heap.size .nilFunc (by simp [go_sem, o1]) ((World.frozen?_setCell _ _ _ _).trans (oz 1)) hof; have X1s := (X1.setB HX0.out v0.heap.size (Nat.le_refl _) o0 0 (.int .i64 lv)).setB HX0.out v0.heap.size (Nat.le_refl _) (x := .int .i64 lv) (by simp [go_sem, o0]) 1 fv))
    all_goals
      go_wp2_with (fail)
      go_meet
      first
        | exact ⟨w1.heap.size, rfl, ⟨AP.one HV0.out.1 HV0.out.2.1 HV0.out.2.2 HZ0.out hrb X1 T1⟩⟩
        | exact ⟨v0.heap.size, rfl, ⟨AP.two HV0.out.1 HV0.out.2.1 HV0.out.2.2 HZ0.out hrb X1s T1 o0 o1⟩⟩
  case rest =>
    obtain ⟨B, hs8, HA⟩ := hcut
    subst hs8
    clear HN HL HX0 HV0 HZ0 hfld
    have HB : Hid _ := ⟨HA.out.hB⟩
    cases hf : f (a + 1) with
    | error er =>
      rw [hf] at HC
      have hm : M = .error er := by rw [← HM.out, hf]; rfl
      subst hm
      clear HM HT HF HJ hof hf
      go_wp2_with (go_at_call 36; (with_reducible refine (HC.out _ HA.out.rx).mono ?_); rintro e w2 ⟨⟨x, he⟩, hne, T2, ex, ey, E1, E2, E3⟩; subst he; have hne' : (er != 0) = true := bne_iff_ne.2 hne; have W6 := HA.out.v6.tx T2 (by omega); obtain ⟨f0, f1, f2, f3⟩ := id W6; have l6 := W6.lt; have TT := HA.out.tx.trans T2)
      refine bodyPost_ret (resV_apply _ _ (w.heap.size + 1) _ _ _ rfl ((W6.set _ _ _).alloc _)) rfl ?_
      refine ⟨⟨⟨⟨#[]⟩, ⟨#[]⟩, 0⟩, rfl⟩, hne, Turn.alloc (TX.set3 TT (by omega) _ _ _) _, ex, ey, up_alloc (set3_cell (by dsimp only; omega) E1) _, up_alloc (set3_cell (by dsimp only; omega) E2) _, fun jj => fz_alloc (by have := World.block_lt_of_cell? w2 _ E1; simpa using this) ((set3_fz _ _ _ _ _ _).trans (E3 jj))⟩
    | ok xb =>
      obtain ⟨x, b⟩ := xb
      rw [hf] at HC
      have hm : M = applyM (tk g.L a).t v (.ok (x, b)) := by rw [← HM.out, hf]
      subst hm
      clear HM hf
      have HR : Hid (∀ y er, vE (opG j v x) = vT y er → x.Ok → ∀ w', TX g.rb w w' → (∃ ask pv, RX g w' b dep ask pv) → SE (applyM (tk g.L a).t v (.ok (x, b))) g dep w (.returned (vT y er)) w') := ⟨fun y er hy hx w' tt rr => by
        unfold applyM
        simp only
        rw [HT.out]
        cases ho : opG j v x with
        | none =>
          rw [ho, vE_none] at hy
          injection hy with hy
          have h1 : (Value.int .i64 110) = .int .i64 er := by have := congrArg (fun l => l.getD 1 undef) hy; simpa using this
          injection h1 with _ h2
          subst h2
          obtain ⟨ask', pv', rr⟩ := rr
          exact ⟨⟨_, rfl⟩, by decide, tt, _, _, rr.c1, rr.c2, rr.fz⟩
        | some z =>
          rw [ho] at hy
          obtain ⟨z1, z2, z3⟩ := z
          rw [vE_some] at hy
          have hz : (⟨z1, z2, z3⟩ : Vx).Ok := opG_ok HJ.out hv hx ho
          obtain ⟨y1, y2, y3⟩ := y
          injection hy with hy
          have h1 := congrArg (fun l => l.getD 1 undef) hy
          have h0 := congrArg (fun l => l.getD 0 undef) hy
          simp at h0 h1
          obtain ⟨rfl, rfl, rfl⟩ := h0
          subst h1
          exact ⟨rfl, hz, tt, rr⟩⟩
      clear HT
      obtain ⟨y, er, hy, _⟩ := vE_any (opG j v x)
      have HY : Hid _ := ⟨hy⟩
      have HP : Hid (∀ W, OpM W g.mb → x.Ok → _) := ⟨fun W hW hx => apply_calls hW HJ.out v x hv hx⟩
      rw [hy] at HP
      have hj3 : j < 7 ∨ j = 7 ∨ j = 8 := by have := HJ.out; omega
      clear hy
      rcases hj3 with h7 | h7 | h7

      · have hfv : fv = .func (.func 68) #[] #[.pointer (some ⟨g.mb + 1 + j, 0, none⟩)] := by rw [← HF.out]; unfold opF; simp [h7]
        subst hfv
        have H7 : Hid _ := ⟨h7⟩
        clear h7 HF hof
        go_wp2_with (first
          | (go_at_call 36; (with_reducible refine (HC.out _ HA.out.rx).mono ?_); rintro e w2 ⟨he, hxo, T2, ask2, pv2, X2⟩; subst he; have W6 := HA.out.v6.tx T2 (by omega); obtain ⟨f0, f1, f2, f3⟩ := id W6; have l6 := W6.lt; have W4 := HA.out.v4.tx T2 (by omega); obtain ⟨d0, d1, d2, d3⟩ := id W4; have l4 := W4.lt; have TT := HA.out.tx.trans T2; have WB := HA.out.ob.turn T2 (by have := HB.out; omega); have b1 := WB.c1; have lB : B < w2.heap.size := World.block_lt_of_cell? w2 _ WB.c0; have HX2 : Hid _ := ⟨X2⟩; clear X2 T2)
          | (go_at_call 68; (with_reducible refine ((HP.out _ (HX2.out.alloc _).op hxo).1 H7.out).mono ?_); rintro e w3 ⟨he, hb3⟩; subst he; have Y6 := (W6.alloc (.cells #[.string x.p, .string x.m, .int .i64 x.n] 27)).bel hb3 (by simp; omega); obtain ⟨f0, f1, f2, f3⟩ := id Y6))
        refine bodyPost_ret (resV_apply _ _ (w.heap.size + 1) _ _ _ rfl (Y6.set _ _ _)) rfl ?_
        refine HR.out y er HY.out hxo _ (TX.set3 ((TT.alloc _).trans (Turn.of_below hb3 _)) (by omega) _ _ _) ⟨ask2, pv2, ((HX2.out.alloc _).bel hb3).set3 HW.out (w.heap.size + 1) (by omega) Y6.c0 _ _ _⟩

      · have hfv : fv = .func (.func 15) #[] #[] := by rw [← HF.out]; unfold opF; simp [h7]
        subst hfv
        have H7 : Hid _ := ⟨h7⟩
        clear h7 HF hof
        go_wp2_with (first
          | (go_at_call 36; (with_reducible refine (HC.out _ HA.out.rx).mono ?_); rintro e w2 ⟨he, hxo, T2, ask2, pv2, X2⟩; subst he; have W6 := HA.out.v6.tx T2 (by omega); obtain ⟨f0, f1, f2, f3⟩ := id W6; have l6 := W6.lt; have W4 := HA.out.v4.tx T2 (by omega); obtain ⟨d0, d1, d2, d3⟩ := id W4; have l4 := W4.lt; have TT := HA.out.tx.trans T2; have WB := HA.out.ob.turn T2 (by have := HB.out; omega); have b1 := WB.c1; have lB : B < w2.heap.size := World.block_lt_of_cell? w2 _ WB.c0; have HX2 : Hid _ := ⟨X2⟩; clear X2 T2)
          | (go_at_call 15; (with_reducible refine ((HP.out _ (HX2.out.alloc _).op hxo).2.1 H7.out).mono ?_); rintro e w3 ⟨he, hb3⟩; subst he; have Y6 := (W6.alloc (.cells #[.string x.p, .string x.m, .int .i64 x.n] 27)).bel hb3 (by simp; omega); obtain ⟨f0, f1, f2, f3⟩ := id Y6))
        refine bodyPost_ret (resV_apply _ _ (w.heap.size + 1) _ _ _ rfl (Y6.set _ _ _)) rfl ?_
        refine HR.out y er HY.out hxo _ (TX.set3 ((TT.alloc _).trans (Turn.of_below hb3 _)) (by omega) _ _ _) ⟨ask2, pv2, ((HX2.out.alloc _).bel hb3).set3 HW.out (w.heap.size + 1) (by omega) Y6.c0 _ _ _⟩

      · have hfv : fv = .func (.func 17) #[] #[] := by rw [← HF.out]; unfold opF; simp [h7]
        subst hfv
        have H7 : Hid _ := ⟨h7⟩
        clear h7 HF hof
        go_wp2_with (first
          | (go_at_call 36; (with_reducible refine (HC.out _ HA.out.rx).mono ?_); rintro e w2 ⟨he, hxo, T2, ask2, pv2, X2⟩; subst he; have W6 := HA.out.v6.tx T2 (by omega); obtain ⟨f0, f1, f2, f3⟩ := id W6; have l6 := W6.lt; have W4 := HA.out.v4.tx T2 (by omega); obtain ⟨d0, d1, d2, d3⟩ := id W4; have l4 := W4.lt; have TT := HA.out.tx.trans T2; have WB := HA.out.ob.turn T2 (by have := HB.out; omega); have b1 := WB.c1; have lB : B < w2.heap.size := World.block_lt_of_cell? w2 _ WB.c0; have HX2 : Hid _ := ⟨X2⟩; clear X2 T2)
          | (go_at_call 17; (with_reducible refine ((HP.out _ (HX2.out.alloc _).op hxo).2.2 H7.out).mono ?_); rintro e w3 ⟨he, hb3⟩; subst he; have Y6 := (W6.alloc (.cells #[.string x.p, .string x.m, .int .i64 x.n] 27)).bel hb3 (by simp; omega); obtain ⟨f0, f1, f2, f3⟩ := id Y6))
        refine bodyPost_ret (resV_apply _ _ (w.heap.size + 1) _ _ _ rfl (Y6.set _ _ _)) rfl ?_
        refine HR.out y er HY.out hxo _ (TX.set3 ((TT.alloc _).trans (Turn.of_below hb3 _)) (by omega) _ _ _) ⟨ask2, pv2, ((HX2.out.alloc _).bel hb3).set3 HW.out (w.heap.size + 1) (by omega) Y6.c0 _ _ _⟩

set_option maxHeartbeats 4000000 in
set_option maxRecDepth 10000 in
theorem xapply_1 (h : RX g w a dep ask pv) (ha : a ≤ 9007199254740992) (j : Nat) (hj : j < 9) (hs : (tk g.L a).t = sgn j) (htv : ∀ x y, twoV (tk g.L a).t x y = opG j x y) (v : Vx) (hv : v.Ok) (q r l : Nat) (d : Nat) (f : Nat → Res) (hd : dep + d = 50) (hal : a + 1 ≤ g.L.length) (hC : StepC g 63 #[.pointer (some ⟨q, 0, none⟩), .pointer (some ⟨r, 0, none⟩), .pointer (some ⟨l, 0, none⟩)] d f) :
    Calls Tryz.prog 65 #[.pointer (some ⟨g.rb, 0, none⟩), .agg #[.string v.p, .string v.m, .int .i64 v.n], .func (.func 63) #[] #[.pointer (some ⟨q, 0, none⟩), .pointer (some ⟨r, 0, none⟩), .pointer (some ⟨l, 0, none⟩)]] w fun e w' => SE (applyM (tk g.L a).t v (f (a + 1))) g dep w e w' := by
  have HN : Hid (∀ W, RX g W a dep ask pv → Calls Tryz.prog 84 #[.pointer (some ⟨g.rb, 0, none⟩)] W fun e w' => e = .returned (.agg #[.int .i64 (g.L.getD a TL.none).1.k, .int .i64 (g.L.getD a TL.none).2, .int .i64 (g.L.getD a TL.none).1.n, .string (St (g.L.getD a TL.none).1.t)]) ∧ RX g w' (a + 1) dep ask pv ∧ TX g.rb W w') := ⟨fun W hW => xnext_any hW ha⟩
  have ht := ot_at h
  have HW : Hid _ := ⟨h⟩
  have hrb := h.lt
  have HC : Hid (∀ W, RX g W (a + 1) dep ask pv → Calls Tryz.prog 63 #[.pointer (some ⟨q, 0, none⟩), .pointer (some ⟨r, 0, none⟩), .pointer (some ⟨l, 0, none⟩)] W fun e w' => SE (f (a + 1)) g dep W e w') := ⟨fun W hW => hC W (a + 1) dep ask pv hW hd hal⟩
  have HJ : Hid (j < 9) := ⟨hj⟩
  obtain ⟨M, HM⟩ : ∃ M, Hid (applyM (tk g.L a).t v (f (a + 1)) = M) := ⟨_, ⟨rfl⟩⟩
  rw [HM.out]
  have HT : Hid _ := ⟨htv⟩
  unfold tk at hs
  have HL : Hid (∀ u, OpM u g.mb → Sem.run Tryz.prog (Instr.lookup 66 (.map (some g.mb)) (.string (St (g.L.getD a TL.none).1.t)) false) u = .ok (.agg #[.int .i64 ((opsL.getD j ([], 0, addV)).2.1 : Int), opF g.mb j]) u) := ⟨fun u hu => look_one hu ht hj hs⟩
  have hof := opF_one g.mb j
  have HO : Hid (opF g.mb j = opF g.mb j) := ⟨rfl⟩
  clear hC htv ht hs h hj hal
  generalize ((opsL.getD j ([], 0, addV)).2.1 : Int) = lv at *
  generalize hpp : g.L.getD a TL.none = p at *
  clear hpp
  have hfld : ∀ (x y z : Int) (t : ByteArray) (u : World), (Instr.field 37 (.agg #[.int .i64 x, .int .i64 y, .int .i64 z, .string t]) 3).run Tryz.prog u = .ok (.string t) u := by intros; kernel_rfl
  generalize hfv : opF g.mb j = fv at *
  have HF : Hid _ := ⟨hfv⟩
  clear hfv HO
  go_enter Tryz.func65, Tryz.ntmps65
  go_upto_region 1 with (fail)
  have V4 : VB ((w.alloc (.cells #[.string v.p, .string v.m, .int .i64 v.n] 27)).alloc zV) w.heap.size v.p v.m v.n := (VB.new w _ _ _).alloc zV
  have V6 : VB ((w.alloc (.cells #[.string v.p, .string v.m, .int .i64 v.n] 27)).alloc zV) (w.heap.size + 1) ⟨#[]⟩ ⟨#[]⟩ 0 := VB.at _ _ _ _ _ (by simp)
  have B0 : Below w.heap.size w ((w.alloc (.cells #[.string v.p, .string v.m, .int .i64 v.n] 27)).alloc zV) := bel_alloc (bel_alloc (Below.refl _ _) _) _
  have hz0 : ((w.alloc (.cells #[.string v.p, .string v.m, .int .i64 v.n] 27)).alloc zV).heap.size = w.heap.size + 2 := by simp
  generalize (w.alloc (.cells #[.string v.p, .string v.m, .int .i64 v.n] 27)).alloc zV = v0 at *
  have HZ0 : Hid _ := ⟨hz0⟩
  clear hz0
  have X0 := HW.out.bel B0
  have HX0 : Hid _ := ⟨X0⟩
  have HV0 : Hid (VB v0 w.heap.size v.p v.m v.n ∧ VB v0 (w.heap.size + 1) ⟨#[]⟩ ⟨#[]⟩ 0 ∧ TX g.rb w v0) := ⟨V4, V6, Turn.of_below B0 _⟩
  clear X0 V4 V6 B0
  go_cut [8] from 11 to 18 (fun s8 wx => ∃ B, s8 = .pointer (some ⟨B, 0, none⟩) ∧ Hid (AP g w wx B lv fv v (a + 1) dep ask pv))
  case first =>
    have c6 := HX0.out.drew.c6
    have l3 := HL.out v0.drew HX0.out.drew.op
    go_region_held3 (fun u => u.cell? ⟨g.rb, 6, none⟩ = some (.map (some g.mb)) ∧ Sem.run Tryz.prog (Instr.lookup 66 (.map (some g.mb)) (.string (St p.1.t)) false) u = .ok (.agg #[.int .i64 lv, fv]) u)
      (first | (with_reducible assumption) | (with_reducible exact ⟨c6, l3⟩) | (with_reducible exact ⟨X1.c6, HL.out _ X1.op⟩) | (with_reducible exact ⟨X1s.c6, HL.out _ X1s.op⟩) | (with_reducible exact ⟨((HX0.out.alloc _).drew).c6, HL.out _ ((HX0.out.alloc _).drew).op⟩) | (with_reducible exact ⟨(HX0.out.drew.alloc _).c6, HL.out _ (HX0.out.drew.alloc _).op⟩) | (with_reducible exact ⟨(X1.alloc _).c6, HL.out _ (X1.alloc _).op⟩))
      (first
        | (go_at_call 84; (with_reducible refine (HN.out _ HX0.out.drew).mono ?_); rintro e w1 ⟨rfl, X1, T1⟩; have HST := store_fn lv fv w1 w1.heap.size rfl hof; have M1 := True.intro)
        | (go_at_call 84; (with_reducible refine (HN.out _ (HX0.out.alloc _).drew).mono ?_); rintro e w1 ⟨rfl, X1, T1⟩; have M2 := True.intro; obtain ⟨o0, o1, o2, oz⟩ := new_ob (v0 := v0) T1 (HX0.out.lt); have HST := store_fn2 fv (w1.setCell ⟨v0.heap.size, 0, none⟩ (.int .i64 lv)) v0.heap.size .nilFunc (by simp [go_sem, o1]) ((World.frozen?_setCell _ _ _ _).trans (oz 1)) hof; have X1s := (X1.setB HX0.out v0.heap.size (Nat.le_refl _) o0 0 (.int .i64 lv)).setB HX0.out v0.heap.size (Nat.le_refl _) (x := .int .i64 lv) (by simp [go_sem, o0]) 1 fv))
    all_goals
      go_wp2_with (fail)
      go_meet
      first
        | exact ⟨w1.heap.size, rfl, ⟨AP.one HV0.out.1 HV0.out.2.1 HV0.out.2.2 HZ0.out hrb X1 T1⟩⟩
        | exact ⟨v0.heap.size, rfl, ⟨AP.two HV0.out.1 HV0.out.2.1 HV0.out.2.2 HZ0.out hrb X1s T1 o0 o1⟩⟩
  case rest =>
    obtain ⟨B, hs8, HA⟩ := hcut
    subst hs8
    clear HN HL HX0 HV0 HZ0 hfld
    have HB : Hid _ := ⟨HA.out.hB⟩
    cases hf : f (a + 1) with
    | error er =>
      rw [hf] at HC
      have hm : M = .error er := by rw [← HM.out, hf]; rfl
      subst hm
      clear HM HT HF HJ hof hf
      go_wp2_with (go_at_call 63; (with_reducible refine (HC.out _ HA.out.rx).mono ?_); rintro e w2 ⟨⟨x, he⟩, hne, T2, ex, ey, E1, E2, E3⟩; subst he; have hne' : (er != 0) = true := bne_iff_ne.2 hne; have W6 := HA.out.v6.tx T2 (by omega); obtain ⟨f0, f1, f2, f3⟩ := id W6; have l6 := W6.lt; have TT := HA.out.tx.trans T2)
      refine bodyPost_ret (resV_apply _ _ (w.heap.size + 1) _ _ _ rfl ((W6.set _ _ _).alloc _)) rfl ?_
      refine ⟨⟨⟨⟨#[]⟩, ⟨#[]⟩, 0⟩, rfl⟩, hne, Turn.alloc (TX.set3 TT (by omega) _ _ _) _, ex, ey, up_alloc (set3_cell (by dsimp only; omega) E1) _, up_alloc (set3_cell (by dsimp only; omega) E2) _, fun jj => fz_alloc (by have := World.block_lt_of_cell? w2 _ E1; simpa using this) ((set3_fz _ _ _ _ _ _).trans (E3 jj))⟩
    | ok xb =>
      obtain ⟨x, b⟩ := xb
      rw [hf] at HC
      have hm : M = applyM (tk g.L a).t v (.ok (x, b)) := by rw [← HM.out, hf]
      subst hm
      clear HM hf
      have HR : Hid (∀ y er, vE (opG j v x) = vT y er → x.Ok → ∀ w', TX g.rb w w' → (∃ ask pv, RX g w' b dep ask pv) → SE (applyM (tk g.L a).t v (.ok (x, b))) g dep w (.returned (vT y er)) w') := ⟨fun y er hy hx w' tt rr => by
        unfold applyM
        simp only
        rw [HT.out]
        cases ho : opG j v x with
        | none =>
          rw [ho, vE_none] at hy
          injection hy with hy
          have h1 : (Value.int .i64 110) = .int .i64 er := by have := congrArg (fun l => l.getD 1 undef) hy; simpa using this
          injection h1 with _ h2
          subst h2
          obtain ⟨ask', pv', rr⟩ := rr
          exact ⟨⟨_, rfl⟩, by decide, tt, _, _, rr.c1, rr.c2, rr.fz⟩
        | some z =>
          rw [ho] at hy
          obtain ⟨z1, z2, z3⟩ := z
          rw [vE_some] at hy
          have hz : (⟨z1, z2, z3⟩ : Vx).Ok := opG_ok HJ.out hv hx ho
          obtain ⟨y1, y2, y3⟩ := y
          injection hy with hy
          have h1 := congrArg (fun l => l.getD 1 undef) hy
          have h0 := congrArg (fun l => l.getD 0 undef) hy
          simp at h0 h1
          obtain ⟨rfl, rfl, rfl⟩ := h0
          subst h1
          exact ⟨rfl, hz, tt, rr⟩⟩
      clear HT
      obtain ⟨y, er, hy, _⟩ := vE_any (opG j v x)
      have HY : Hid _ := ⟨hy⟩
      have HP : Hid (∀ W, OpM W g.mb → x.Ok → _) := ⟨fun W hW hx => apply_calls hW HJ.out v x hv hx⟩
      rw [hy] at HP
      have hj3 : j < 7 ∨ j = 7 ∨ j = 8 := by have := HJ.out; omega
      clear hy
      rcases hj3 with h7 | h7 | h7

      · have hfv : fv = .func (.func 68) #[] #[.pointer (some ⟨g.mb + 1 + j, 0, none⟩)] := by rw [← HF.out]; unfold opF; simp [h7]
        subst hfv
        have H7 : Hid _ := ⟨h7⟩
        clear h7 HF hof
        go_wp2_with (first
          | (go_at_call 63; (with_reducible refine (HC.out _ HA.out.rx).mono ?_); rintro e w2 ⟨he, hxo, T2, ask2, pv2, X2⟩; subst he; have W6 := HA.out.v6.tx T2 (by omega); obtain ⟨f0, f1, f2, f3⟩ := id W6; have l6 := W6.lt; have W4 := HA.out.v4.tx T2 (by omega); obtain ⟨d0, d1, d2, d3⟩ := id W4; have l4 := W4.lt; have TT := HA.out.tx.trans T2; have WB := HA.out.ob.turn T2 (by have := HB.out; omega); have b1 := WB.c1; have lB : B < w2.heap.size := World.block_lt_of_cell? w2 _ WB.c0; have HX2 : Hid _ := ⟨X2⟩; clear X2 T2)
          | (go_at_call 68; (with_reducible refine ((HP.out _ (HX2.out.alloc _).op hxo).1 H7.out).mono ?_); rintro e w3 ⟨he, hb3⟩; subst he; have Y6 := (W6.alloc (.cells #[.string x.p, .string x.m, .int .i64 x.n] 27)).bel hb3 (by simp; omega); obtain ⟨f0, f1, f2, f3⟩ := id Y6))
        refine bodyPost_ret (resV_apply _ _ (w.heap.size + 1) _ _ _ rfl (Y6.set _ _ _)) rfl ?_
        refine HR.out y er HY.out hxo _ (TX.set3 ((TT.alloc _).trans (Turn.of_below hb3 _)) (by omega) _ _ _) ⟨ask2, pv2, ((HX2.out.alloc _).bel hb3).set3 HW.out (w.heap.size + 1) (by omega) Y6.c0 _ _ _⟩

      · have hfv : fv = .func (.func 15) #[] #[] := by rw [← HF.out]; unfold opF; simp [h7]
        subst hfv
        have H7 : Hid _ := ⟨h7⟩
        clear h7 HF hof
        go_wp2_with (first
          | (go_at_call 63; (with_reducible refine (HC.out _ HA.out.rx).mono ?_); rintro e w2 ⟨he, hxo, T2, ask2, pv2, X2⟩; subst he; have W6 := HA.out.v6.tx T2 (by omega); obtain ⟨f0, f1, f2, f3⟩ := id W6; have l6 := W6.lt; have W4 := HA.out.v4.tx T2 (by omega); obtain ⟨d0, d1, d2, d3⟩ := id W4; have l4 := W4.lt; have TT := HA.out.tx.trans T2; have WB := HA.out.ob.turn T2 (by have := HB.out; omega); have b1 := WB.c1; have lB : B < w2.heap.size := World.block_lt_of_cell? w2 _ WB.c0; have HX2 : Hid _ := ⟨X2⟩; clear X2 T2)
          | (go_at_call 15; (with_reducible refine ((HP.out _ (HX2.out.alloc _).op hxo).2.1 H7.out).mono ?_); rintro e w3 ⟨he, hb3⟩; subst he; have Y6 := (W6.alloc (.cells #[.string x.p, .string x.m, .int .i64 x.n] 27)).bel hb3 (by simp; omega); obtain ⟨f0, f1, f2, f3⟩ := id Y6))
        refine bodyPost_ret (resV_apply _ _ (w.heap.size + 1) _ _ _ rfl (Y6.set _ _ _)) rfl ?_
        refine HR.out y er HY.out hxo _ (TX.set3 ((TT.alloc _).trans (Turn.of_below hb3 _)) (by omega) _ _ _) ⟨ask2, pv2, ((HX2.out.alloc _).bel hb3).set3 HW.out (w.heap.size + 1) (by omega) Y6.c0 _ _ _⟩

      · have hfv : fv = .func (.func 17) #[] #[] := by rw [← HF.out]; unfold opF; simp [h7]
        subst hfv
        have H7 : Hid _ := ⟨h7⟩
        clear h7 HF hof
        go_wp2_with (first
          | (go_at_call 63; (with_reducible refine (HC.out _ HA.out.rx).mono ?_); rintro e w2 ⟨he, hxo, T2, ask2, pv2, X2⟩; subst he; have W6 := HA.out.v6.tx T2 (by omega); obtain ⟨f0, f1, f2, f3⟩ := id W6; have l6 := W6.lt; have W4 := HA.out.v4.tx T2 (by omega); obtain ⟨d0, d1, d2, d3⟩ := id W4; have l4 := W4.lt; have TT := HA.out.tx.trans T2; have WB := HA.out.ob.turn T2 (by have := HB.out; omega); have b1 := WB.c1; have lB : B < w2.heap.size := World.block_lt_of_cell? w2 _ WB.c0; have HX2 : Hid _ := ⟨X2⟩; clear X2 T2)
          | (go_at_call 17; (with_reducible refine ((HP.out _ (HX2.out.alloc _).op hxo).2.2 H7.out).mono ?_); rintro e w3 ⟨he, hb3⟩; subst he; have Y6 := (W6.alloc (.cells #[.string x.p, .string x.m, .int .i64 x.n] 27)).bel hb3 (by simp; omega); obtain ⟨f0, f1, f2, f3⟩ := id Y6))
        refine bodyPost_ret (resV_apply _ _ (w.heap.size + 1) _ _ _ rfl (Y6.set _ _ _)) rfl ?_
        refine HR.out y er HY.out hxo _ (TX.set3 ((TT.alloc _).trans (Turn.of_below hb3 _)) (by omega) _ _ _) ⟨ask2, pv2, ((HX2.out.alloc _).bel hb3).set3 HW.out (w.heap.size + 1) (by omega) Y6.c0 _ _ _⟩
end
end Go.Proofs.YtljmbgflcidokaaGreatDoor
