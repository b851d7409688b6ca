/- The contract of place. -/
import Derived.Test.YtjbepojopfbajaaDSib
import Derived.Laws.Tables
import Derived.Laws.Rows
import Derived.Deep.WholeRow
namespace Go.Proofs.Ytjbepojopfbajaa
open Go.ChangeShapes Go.WideShapes Go.ChangeAt Go.RowKit
set_option linter.unusedVariables false
set_option linter.unusedSimpArgs false

abbrev regO (n : Int) : O := ⟨1, n, 0, 0, 0, false, false, 0, ⟨#[]⟩, 0⟩
abbrev immO (n : Int) : O := ⟨2, 0, 0, 0, 0, false, false, n, ⟨#[]⟩, 0⟩

/-- Memory, but for its displacement. -/
def memM (L : Ln) (a : Nat) (fs : Bool) (rex md rm : Int) : Except Int (O × Nat) :=
  if (md == 0 && rm == 5) = true then .ok (memO (-1) (-1) 0 0 true false, a)
  else if (rm == 4) = false then .ok (memO (regOf rex rm 1) (-1) 0 0 false false, a)
  else if fs = true then nxt L a >>= fun p => must (p.1 == 37) (.ok (memO (-1) (-1) 0 0 false true, p.2))
  else nxt L a >>= fun p => sibA rex md p.1 >>= fun t => .ok (memO t.1 t.2.1 t.2.2 0 false false, p.2)
/-- An operand that ModRM tells. -/
def placeM (L : Ln) (a : Nat) (fs : Bool) (rex md rm : Int) : Except Int (O × Nat) :=
  if (md == 3) = true then .ok (regO (regOf rex rm 1), a)
  else memM L a fs rex md rm >>= fun p => dispM L p.2 md p.1.b >>= fun d => .ok (⟨p.1.k, p.1.r, p.1.b, p.1.x, p.1.s, p.1.rip, p.1.fs, d.1, p.1.nm, p.1.m⟩, d.2)

abbrev zeroOb : Obj := .cells #[.int .i64 0, .int .i64 0, .int .i64 0, .int .i64 0, .int .i64 0, .bool false, .bool false, .int .i64 0, .string ⟨#[]⟩, .int .i64 0] 54
theorem fz_new (w : World) (cs : Array Value) (t : TypeId) (j : Nat) : (w.alloc (.cells cs t)).frozen? ⟨w.heap.size, j, none⟩ = false := by
  simp only [World.frozen?]; rw [show (w.alloc (.cells cs t)).heap[w.heap.size]? = some (.cells cs t) from by show (w.heap.push _)[w.heap.size]? = _; simp]; simp
theorem fz_up (w : World) (o : Obj) (b j : Nat) (hb : b < w.heap.size) (h : w.frozen? ⟨b, j, none⟩ = false) : (w.alloc o).frozen? ⟨b, j, none⟩ = false := fz_bel (bel_alloc (Below.refl _ _) o) hb h

/-- The world behind a write of a whole operand. -/
abbrev setO (w : World) (b : Nat) (o : O) : World := (((((((((w.setCell ⟨b, 0, none⟩ (.int .i64 o.k)).setCell ⟨b, 1, none⟩ (.int .i64 o.r)).setCell ⟨b, 2, none⟩ (.int .i64 o.b)).setCell ⟨b, 3, none⟩ (.int .i64 o.x)).setCell ⟨b, 4, none⟩ (.int .i64 o.s)).setCell ⟨b, 5, none⟩ (.bool o.rip)).setCell ⟨b, 6, none⟩ (.bool o.fs)).setCell ⟨b, 7, none⟩ (.int .i64 o.n)).setCell ⟨b, 8, none⟩ (.string o.nm)).setCell ⟨b, 9, none⟩ (.int .i64 o.m)
theorem OA.put {w : World} {b : Nat} {o0 : O} (h : OA w b o0) (o : O) : OA (setO w b o) b o := by
  obtain ⟨c0, c1, c2, c3, c4, c5, c6, c7, c8, c9⟩ := h
  constructor <;> simp [go_sem, c0, c1, c2, c3, c4, c5, c6, c7, c8, c9]
theorem Fr.put {a b c : Nat} {u v : World} (h : Fr a b u v) (hc : c = a ∨ c = b ∨ u.heap.size ≤ c) (o : O) : Fr a b u (setO v c o) :=
  (((((((((h.set (p := ⟨c, 0, none⟩) hc _).set (p := ⟨c, 1, none⟩) hc _).set (p := ⟨c, 2, none⟩) hc _).set (p := ⟨c, 3, none⟩) hc _).set (p := ⟨c, 4, none⟩) hc _).set (p := ⟨c, 5, none⟩) hc _).set (p := ⟨c, 6, none⟩) hc _).set (p := ⟨c, 7, none⟩) hc _).set (p := ⟨c, 8, none⟩) hc _).set (p := ⟨c, 9, none⟩) hc _
theorem load_list (w : World) (b f : Nat) (vs : List Value) (h : ∀ j : Nat, ∀ v, vs[j]? = some v → w.cell? ⟨b, f + j, none⟩ = some v) :
    (loadCellsFrom ⟨b, f, none⟩ 0 vs.length #[]).run Try.prog w = .ok vs.toArray w := by
  have := run_loadCells_list (P := Try.prog) w ⟨b, f, none⟩ vs (fun j v hv => by
    have hadd : (⟨b, f, none⟩ : Addr).add j = ⟨b, f + j, none⟩ := by unfold Addr.add; split <;> simp_all
    rw [hadd]; exact h j v hv)
  simpa [loadCells] using this
theorem loadVar_of {w : World} {t : TypeId} {f : Array Field} {a : Addr} {n : Nat} {cs : Array Value} (hu : Try.prog.underlying t = some (.struct f)) (hi : (Try.prog.info? t).map (·.size) = some n)
    (hl : (loadCellsFrom a 0 n #[]).run Try.prog w = .ok cs w) : (loadVar t a).run Try.prog w = .ok (.agg cs) w := by
  cases hq : Try.prog.info? t with
  | none => simp [hq] at hi
  | some i =>
    have hs : i.size = n := by simpa [hq] using hi
    simp [loadVar, isAgg, run_underlying hu, sizeOf, typeInfo, hq, hs, loadCells, hl]
theorem size_opd : (Try.prog.info? 54).map (·.size) = some 10 := by kernel_rfl
theorem under_opd : Try.prog.underlying 54 = some (.struct (Try.prog.fieldsOf 54)) := by kernel_rfl
theorem OA.whole {w : World} {b : Nat} {o : O} (h : OA w b o) : (loadVar 54 ⟨b, 0, none⟩).run Try.prog w = .ok o.val w := by
  refine loadVar_of under_opd size_opd (load_list w b 0 [.int .i64 o.k, .int .i64 o.r, .int .i64 o.b, .int .i64 o.x, .int .i64 o.s, .bool o.rip, .bool o.fs, .int .i64 o.n, .string o.nm, .int .i64 o.m] fun j v hv => ?_)
  match j, hv with
  | 0, hv => exact (Option.some.inj hv) ▸ h.c0
  | 1, hv => exact (Option.some.inj hv) ▸ h.c1
  | 2, hv => exact (Option.some.inj hv) ▸ h.c2
  | 3, hv => exact (Option.some.inj hv) ▸ h.c3
  | 4, hv => exact (Option.some.inj hv) ▸ h.c4
  | 5, hv => exact (Option.some.inj hv) ▸ h.c5
  | 6, hv => exact (Option.some.inj hv) ▸ h.c6
  | 7, hv => exact (Option.some.inj hv) ▸ h.c7
  | 8, hv => exact (Option.some.inj hv) ▸ h.c8
  | 9, hv => exact (Option.some.inj hv) ▸ h.c9
  | k + 10, hv => simp at hv
theorem res_opd {fn : Func} {p : Tmp} (h : fn.results = #[.cell p 54]) (tmps : Array Value) (w : World) (b : Nat) (o : O) (hp : tmps.getD p undef = .pointer (some ⟨b, 0, none⟩)) (hO : OA w b o) :
    (results fn tmps).run Try.prog w = .ok o.val w := by
  have hp' : tmps[p]?.getD undef = .pointer (some ⟨b, 0, none⟩) := by simpa using hp
  simp [results, h, hp', asAddr, hO.whole]

theorem place_reg {w : World} {rb : Nat} {L : Ln} {a : Nat} {fs : Bool} {rex opc sz md rg rm : Int} (m : Except Int (O × Nat)) (ha : a ≤ L.len) (hr0 : 0 ≤ rm) (hr8 : rm < 8) (h : RS w rb L a fs rex opc sz md rg rm) (h3 : (md == 3) = true) (HR : Hid (m = .ok (regO (regOf rex rm 1), a))) :
    Calls Try.prog 97 #[.pointer (some ⟨rb, 0, none⟩)] w fun e w' => Ends2 m O.val (fun a' => RS w' rb L a' fs rex opc sz md rg rm) e ∧ Fr rb rb w w' := by
  have R0 := h.up zeroOb
  have HB := registerOf_any rm 1 hr0 hr8 R0
  generalize regOf rex rm 1 = B at *
  (have rc := R0); obtain ⟨d0, d1, d2, d3, d4, d5, d6, d7, d8, dz, dl⟩ := rc
  have R9 : Hid (RS (w.alloc (regO B).box) rb L a fs rex opc sz md rg rm) := ⟨h.up _⟩
  clear h
  go_enter Try.func97, Try.ntmps97
  go_wp2_with (go_at_call 74; (with_reducible refine HB.mono ?_); rintro e w1 ⟨rfl, hw1⟩; subst w1)
  refine bodyPost_ret (v := (regO B).val) (by simp [results, Try.results97, go_sem]) rfl ?_
  refine ⟨?_, (Fr.refl rb rb w).alloc _⟩
  rw [HR.out]
  exact ⟨rfl, R9.out⟩

set_option maxHeartbeats 2000000 in
theorem place_ripok {w : World} {rb : Nat} {L : Ln} {a : Nat} {fs : Bool} {rex opc sz md rg rm : Int} (m : Except Int (O × Nat)) (ha : a ≤ L.len) (hr0 : 0 ≤ rm) (hr8 : rm < 8) (h : RS w rb L a fs rex opc sz md rg rm) (h3 : (md == 3) = false) (h5 : (md == 0 && rm == 5) = true) (x : Int) (a2 : Nat) (hd : dispM L a md (-1) = .ok (x, a2)) (HR : Hid (m = .ok (memO (-1) (-1) 0 x true false, a2))) :
    Calls Try.prog 97 #[.pointer (some ⟨rb, 0, none⟩)] w fun e w' => Ends2 m O.val (fun a' => RS w' rb L a' fs rex opc sz md rg rm) e ∧ Fr rb rb w w' := by
  have hlt := h.lt
  have R0 := (h.up zeroOb).up (memO (-1) (-1) 0 0 false false).box
  have O0 : OA ((w.alloc zeroOb).alloc (memO (-1) (-1) 0 0 false false).box) (w.heap.size + 1) (memO (-1) (-1) 0 0 false false) := by have := OA.new (w.alloc zeroOb) (memO (-1) (-1) 0 0 false false); simpa using this
  have P0 : ∀ o : O, OA ((w.alloc zeroOb).alloc o.box) w.heap.size zeroO := fun o => (show OA (w.alloc zeroOb) w.heap.size zeroO by exact OA.new w zeroO).bel (bel_alloc (Below.refl _ _) _)
  have zp : ∀ (o : O) j, ((w.alloc zeroOb).alloc o.box).frozen? ⟨w.heap.size, j, none⟩ = false := fun o j => fz_up _ _ _ _ (by simp) (fz_new _ _ _ _)
  have zo : ∀ (o : O) j, ((w.alloc zeroOb).alloc o.box).frozen? ⟨w.heap.size + 1, j, none⟩ = false := fun o j => by have := fz_new (w.alloc zeroOb) #[.int .i64 o.k, .int .i64 o.r, .int .i64 o.b, .int .i64 o.x, .int .i64 o.s, .bool o.rip, .bool o.fs, .int .i64 o.n, .string o.nm, .int .i64 o.m] 54 j; rw [show (w.alloc zeroOb).heap.size = w.heap.size + 1 by simp] at this; exact this
  have F0 : ∀ o : O, Fr rb rb w ((w.alloc zeroOb).alloc o.box) := fun o => ((Fr.refl rb rb w).alloc _).alloc _
  have HB := registerOf_any rm 1 hr0 hr8 R0
  generalize regOf rex rm 1 = B at *
  (have rc := R0); obtain ⟨d0, d1, d2, d3, d4, d5, d6, d7, d8, dz, dl⟩ := rc
  (have rc2 := h.up zeroOb); obtain ⟨g0, g1, g2, g3, g4, g5, g6, g7, g8, gz, gl⟩ := rc2
  have HF := isFromRip_any R0
  rw [h5] at HF
  have ha1 := ha
  have R1 := (h.up zeroOb).up (memO (-1) (-1) 0 0 true false).box
  have O1 : OA ((w.alloc zeroOb).alloc (memO (-1) (-1) 0 0 true false).box) (w.heap.size + 1) (memO (-1) (-1) 0 0 true false) := by have := OA.new (w.alloc zeroOb) (memO (-1) (-1) 0 0 true false); simpa using this
  have P1 := P0 (memO (-1) (-1) 0 0 true false)
  have z1 := zp (memO (-1) (-1) 0 0 true false)
  have y1 := zo (memO (-1) (-1) 0 0 true false)
  have F1 := F0 (memO (-1) (-1) 0 0 true false)
  clear h O0 zp zo F0 P0
  go_enter Try.func97, Try.ntmps97
  go_upto_region 12 with (go_at_call 71; (with_reducible refine HF.mono ?_); rintro e w1 ⟨rfl, hw1⟩; subst w1)
  generalize (w.alloc zeroOb).alloc (memO (-1) (-1) 0 0 true false).box = v at *
  clear R0 d0 d1 d2 d3 d4 d5 d6 d7 d8 dz dl g0 g1 g2 g3 g4 g5 g6 g7 g8 gz gl HF HB
  obtain ⟨o, ho⟩ : ∃ o, o = memO (-1) (-1) 0 0 true false := ⟨_, rfl⟩
  rw [← ho] at O1
  rw [show (-1 : Int) = o.b by rw [ho]] at hd
  have Ho : Hid (o = memO (-1) (-1) 0 0 true false) := ⟨ho⟩
  clear ho
  obtain ⟨hob, hpb⟩ : w.heap.size + 1 ≠ rb ∧ w.heap.size ≠ rb := ⟨by omega, by omega⟩
  have DS := disp_any o ha1 R1
  have HP : Hid (∀ u, Fr rb rb v u → OA u (w.heap.size + 1) o ∧ OA u w.heap.size zeroO ∧ (∀ j, u.frozen? ⟨w.heap.size + 1, j, none⟩ = false) ∧ (∀ j, u.frozen? ⟨w.heap.size, j, none⟩ = false)) := ⟨fun u hu => ⟨O1.fr hu hob hob, P1.fr hu hpb hpb,
    fun j => (hu.frozen (p := ⟨w.heap.size + 1, j, none⟩) (World.block_lt_of_cell? v ⟨w.heap.size + 1, 0, none⟩ O1.c0) hob hob).trans (y1 j), fun j => (hu.frozen (p := ⟨w.heap.size, j, none⟩) (World.block_lt_of_cell? v ⟨w.heap.size, 0, none⟩ P1.c0) hpb hpb).trans (z1 j)⟩⟩
  have hne : w.heap.size ≠ w.heap.size + 1 := by omega
  rw [hd] at DS
  (have oc := O1); obtain ⟨o0, o1, o2, o3, o4, o5, o6, o7, o8, o9⟩ := oc
  clear P1 z1 y1
  go_wp2_with (go_at_call 104; (with_reducible refine DS.mono ?_); rintro e w2 ⟨he, hfr2⟩; obtain ⟨he', R2⟩ := he; subst he'; obtain ⟨O2, P2, y2, z2⟩ := HP.out _ hfr2; (have hR2 : Hid _ := ⟨R2⟩); clear R2; obtain ⟨i0, i1, i2, i3, i4, i5, i6, i7, i8, i9⟩ := O2; (have hP2 : Hid _ := ⟨P2⟩); obtain ⟨k0, k1, k2, k3, k4, k5, k6, k7, k8, k9⟩ := P2)
  have O3 := (hP2.out.fr ((Fr.refl (w.heap.size + 1) (w.heap.size + 1) w2).setA 7 (.int .i64 x)) (by omega) (by omega)).put ⟨o.k, o.r, o.b, o.x, o.s, o.rip, o.fs, x, o.nm, o.m⟩
  have R3 := (hR2.out.fr ((Fr.refl (w.heap.size + 1) (w.heap.size + 1) w2).setA 7 (.int .i64 x)) (by omega) (by omega)).fr ((Fr.refl w.heap.size w.heap.size _).put (.inl rfl) ⟨o.k, o.r, o.b, o.x, o.s, o.rip, o.fs, x, o.nm, o.m⟩) hlt hlt
  have F3 := ((F1.then hfr2).setN (c := w.heap.size + 1) (by omega) 7 (.int .i64 x)).put (c := w.heap.size) (.inr (.inr (Nat.le_refl _))) ⟨o.k, o.r, o.b, o.x, o.s, o.rip, o.fs, x, o.nm, o.m⟩
  dsimp only [setO] at O3 R3 F3
  have hT : Ends2 m O.val (fun a' => RS _ rb L a' fs rex opc sz md rg rm) (.returned (⟨o.k, o.r, o.b, o.x, o.s, o.rip, o.fs, x, o.nm, o.m⟩ : O).val) ∧ Fr rb rb w _ := ⟨by rw [HR.out]; exact ⟨by rw [Ho.out], R3⟩, F3⟩
  with_reducible refine bodyPost_ret (v := .agg #[.int .i64 o.k, .int .i64 o.r, .int .i64 o.b, .int .i64 o.x, .int .i64 o.s, .bool o.rip, .bool o.fs, .int .i64 x, .string o.nm, .int .i64 o.m]) (res_opd (p := 2) Try.results97 _ _ w.heap.size ⟨o.k, o.r, o.b, o.x, o.s, o.rip, o.fs, x, o.nm, o.m⟩ (by kernel_rfl) O3) (by kernel_rfl) hT
set_option maxHeartbeats 2000000 in
theorem place_ripno {w : World} {rb : Nat} {L : Ln} {a : Nat} {fs : Bool} {rex opc sz md rg rm : Int} (m : Except Int (O × Nat)) (ha : a ≤ L.len) (hr0 : 0 ≤ rm) (hr8 : rm < 8) (h : RS w rb L a fs rex opc sz md rg rm) (h3 : (md == 3) = false) (h5 : (md == 0 && rm == 5) = true) (x : Int) (hd : dispM L a md (-1) = .error x) (HR : Hid (m = .error x)) :
    Calls Try.prog 97 #[.pointer (some ⟨rb, 0, none⟩)] w fun e w' => Ends2 m O.val (fun a' => RS w' rb L a' fs rex opc sz md rg rm) e ∧ Fr rb rb w w' := by
  have hlt := h.lt
  have R0 := (h.up zeroOb).up (memO (-1) (-1) 0 0 false false).box
  have O0 : OA ((w.alloc zeroOb).alloc (memO (-1) (-1) 0 0 false false).box) (w.heap.size + 1) (memO (-1) (-1) 0 0 false false) := by have := OA.new (w.alloc zeroOb) (memO (-1) (-1) 0 0 false false); simpa using this
  have P0 : ∀ o : O, OA ((w.alloc zeroOb).alloc o.box) w.heap.size zeroO := fun o => (show OA (w.alloc zeroOb) w.heap.size zeroO by exact OA.new w zeroO).bel (bel_alloc (Below.refl _ _) _)
  have zp : ∀ (o : O) j, ((w.alloc zeroOb).alloc o.box).frozen? ⟨w.heap.size, j, none⟩ = false := fun o j => fz_up _ _ _ _ (by simp) (fz_new _ _ _ _)
  have zo : ∀ (o : O) j, ((w.alloc zeroOb).alloc o.box).frozen? ⟨w.heap.size + 1, j, none⟩ = false := fun o j => by have := fz_new (w.alloc zeroOb) #[.int .i64 o.k, .int .i64 o.r, .int .i64 o.b, .int .i64 o.x, .int .i64 o.s, .bool o.rip, .bool o.fs, .int .i64 o.n, .string o.nm, .int .i64 o.m] 54 j; rw [show (w.alloc zeroOb).heap.size = w.heap.size + 1 by simp] at this; exact this
  have F0 : ∀ o : O, Fr rb rb w ((w.alloc zeroOb).alloc o.box) := fun o => ((Fr.refl rb rb w).alloc _).alloc _
  have HB := registerOf_any rm 1 hr0 hr8 R0
  generalize regOf rex rm 1 = B at *
  (have rc := R0); obtain ⟨d0, d1, d2, d3, d4, d5, d6, d7, d8, dz, dl⟩ := rc
  (have rc2 := h.up zeroOb); obtain ⟨g0, g1, g2, g3, g4, g5, g6, g7, g8, gz, gl⟩ := rc2
  have HF := isFromRip_any R0
  rw [h5] at HF
  have ha1 := ha
  have R1 := (h.up zeroOb).up (memO (-1) (-1) 0 0 true false).box
  have O1 : OA ((w.alloc zeroOb).alloc (memO (-1) (-1) 0 0 true false).box) (w.heap.size + 1) (memO (-1) (-1) 0 0 true false) := by have := OA.new (w.alloc zeroOb) (memO (-1) (-1) 0 0 true false); simpa using this
  have P1 := P0 (memO (-1) (-1) 0 0 true false)
  have z1 := zp (memO (-1) (-1) 0 0 true false)
  have y1 := zo (memO (-1) (-1) 0 0 true false)
  have F1 := F0 (memO (-1) (-1) 0 0 true false)
  clear h O0 zp zo F0 P0
  go_enter Try.func97, Try.ntmps97
  go_upto_region 12 with (go_at_call 71; (with_reducible refine HF.mono ?_); rintro e w1 ⟨rfl, hw1⟩; subst w1)
  generalize (w.alloc zeroOb).alloc (memO (-1) (-1) 0 0 true false).box = v at *
  clear R0 d0 d1 d2 d3 d4 d5 d6 d7 d8 dz dl g0 g1 g2 g3 g4 g5 g6 g7 g8 gz gl HF HB
  obtain ⟨o, ho⟩ : ∃ o, o = memO (-1) (-1) 0 0 true false := ⟨_, rfl⟩
  rw [← ho] at O1
  rw [show (-1 : Int) = o.b by rw [ho]] at hd
  have Ho : Hid (o = memO (-1) (-1) 0 0 true false) := ⟨ho⟩
  clear ho
  obtain ⟨hob, hpb⟩ : w.heap.size + 1 ≠ rb ∧ w.heap.size ≠ rb := ⟨by omega, by omega⟩
  have DS := disp_any o ha1 R1
  have HP : Hid (∀ u, Fr rb rb v u → OA u (w.heap.size + 1) o ∧ OA u w.heap.size zeroO ∧ (∀ j, u.frozen? ⟨w.heap.size + 1, j, none⟩ = false) ∧ (∀ j, u.frozen? ⟨w.heap.size, j, none⟩ = false)) := ⟨fun u hu => ⟨O1.fr hu hob hob, P1.fr hu hpb hpb,
    fun j => (hu.frozen (p := ⟨w.heap.size + 1, j, none⟩) (World.block_lt_of_cell? v ⟨w.heap.size + 1, 0, none⟩ O1.c0) hob hob).trans (y1 j), fun j => (hu.frozen (p := ⟨w.heap.size, j, none⟩) (World.block_lt_of_cell? v ⟨w.heap.size, 0, none⟩ P1.c0) hpb hpb).trans (z1 j)⟩⟩
  have hne : w.heap.size ≠ w.heap.size + 1 := by omega
  rw [hd] at DS
  (have oc := O1); obtain ⟨o0, o1, o2, o3, o4, o5, o6, o7, o8, o9⟩ := oc
  clear P1 z1 y1
  go_wp2_with (go_at_call 104; (with_reducible refine DS.mono ?_); rintro e w2 ⟨he, hfr2⟩; (have he' : _ = _ := he); subst he')
  refine ⟨rfl, ?_, F1.then hfr2⟩
  rw [HR.out]; rfl
set_option maxHeartbeats 2000000 in
theorem place_baseok {w : World} {rb : Nat} {L : Ln} {a : Nat} {fs : Bool} {rex opc sz md rg rm : Int} (m : Except Int (O × Nat)) (ha : a ≤ L.len) (hr0 : 0 ≤ rm) (hr8 : rm < 8) (h : RS w rb L a fs rex opc sz md rg rm) (h3 : (md == 3) = false) (h5 : (md == 0 && rm == 5) = false) (h4 : (rm == 4) = false) (h4n : (rm != 4) = true) (x : Int) (a2 : Nat) (hd0 : dispM L a md (regOf rex rm 1) = .ok (x, a2)) (HR : Hid (m = .ok (memO (regOf rex rm 1) (-1) 0 x false false, a2))) :
    Calls Try.prog 97 #[.pointer (some ⟨rb, 0, none⟩)] w fun e w' => Ends2 m O.val (fun a' => RS w' rb L a' fs rex opc sz md rg rm) e ∧ Fr rb rb w w' := by
  have hlt := h.lt
  have R0 := (h.up zeroOb).up (memO (-1) (-1) 0 0 false false).box
  have O0 : OA ((w.alloc zeroOb).alloc (memO (-1) (-1) 0 0 false false).box) (w.heap.size + 1) (memO (-1) (-1) 0 0 false false) := by have := OA.new (w.alloc zeroOb) (memO (-1) (-1) 0 0 false false); simpa using this
  have P0 : ∀ o : O, OA ((w.alloc zeroOb).alloc o.box) w.heap.size zeroO := fun o => (show OA (w.alloc zeroOb) w.heap.size zeroO by exact OA.new w zeroO).bel (bel_alloc (Below.refl _ _) _)
  have zp : ∀ (o : O) j, ((w.alloc zeroOb).alloc o.box).frozen? ⟨w.heap.size, j, none⟩ = false := fun o j => fz_up _ _ _ _ (by simp) (fz_new _ _ _ _)
  have zo : ∀ (o : O) j, ((w.alloc zeroOb).alloc o.box).frozen? ⟨w.heap.size + 1, j, none⟩ = false := fun o j => by have := fz_new (w.alloc zeroOb) #[.int .i64 o.k, .int .i64 o.r, .int .i64 o.b, .int .i64 o.x, .int .i64 o.s, .bool o.rip, .bool o.fs, .int .i64 o.n, .string o.nm, .int .i64 o.m] 54 j; rw [show (w.alloc zeroOb).heap.size = w.heap.size + 1 by simp] at this; exact this
  have F0 : ∀ o : O, Fr rb rb w ((w.alloc zeroOb).alloc o.box) := fun o => ((Fr.refl rb rb w).alloc _).alloc _
  have HB := registerOf_any rm 1 hr0 hr8 R0
  generalize regOf rex rm 1 = B at *
  (have rc := R0); obtain ⟨d0, d1, d2, d3, d4, d5, d6, d7, d8, dz, dl⟩ := rc
  (have rc2 := h.up zeroOb); obtain ⟨g0, g1, g2, g3, g4, g5, g6, g7, g8, gz, gl⟩ := rc2
  have HF := isFromRip_any R0
  rw [h5] at HF
  have ha1 := ha
  have R1 := (h.up zeroOb).up (memO B (-1) 0 0 false false).box
  have O1 : OA ((w.alloc zeroOb).alloc (memO B (-1) 0 0 false false).box) (w.heap.size + 1) (memO B (-1) 0 0 false false) := by have := OA.new (w.alloc zeroOb) (memO B (-1) 0 0 false false); simpa using this
  have P1 := P0 (memO B (-1) 0 0 false false)
  have z1 := zp (memO B (-1) 0 0 false false)
  have y1 := zo (memO B (-1) 0 0 false false)
  have F1 := F0 (memO B (-1) 0 0 false false)
  clear h O0 zp zo F0 P0
  go_enter Try.func97, Try.ntmps97
  go_upto_region 12 with (first | (go_at_call 71; (with_reducible refine HF.mono ?_); rintro e w9 ⟨rfl, hw9⟩; subst w9) | (go_at_call 74; (with_reducible refine HB.mono ?_); rintro e w1 ⟨rfl, hw1⟩; subst w1))
  generalize (w.alloc zeroOb).alloc (memO B (-1) 0 0 false false).box = v at *
  clear R0 d0 d1 d2 d3 d4 d5 d6 d7 d8 dz dl g0 g1 g2 g3 g4 g5 g6 g7 g8 gz gl HF HB
  obtain ⟨o, ho⟩ : ∃ o, o = memO B (-1) 0 0 false false := ⟨_, rfl⟩
  rw [← ho] at O1
  have hd : dispM L a md o.b = .ok (x, a2) := by rw [ho]; exact hd0
  have Ho : Hid (o = memO B (-1) 0 0 false false) := ⟨ho⟩
  clear ho
  obtain ⟨hob, hpb⟩ : w.heap.size + 1 ≠ rb ∧ w.heap.size ≠ rb := ⟨by omega, by omega⟩
  have DS := disp_any o ha1 R1
  have HP : Hid (∀ u, Fr rb rb v u → OA u (w.heap.size + 1) o ∧ OA u w.heap.size zeroO ∧ (∀ j, u.frozen? ⟨w.heap.size + 1, j, none⟩ = false) ∧ (∀ j, u.frozen? ⟨w.heap.size, j, none⟩ = false)) := ⟨fun u hu => ⟨O1.fr hu hob hob, P1.fr hu hpb hpb,
    fun j => (hu.frozen (p := ⟨w.heap.size + 1, j, none⟩) (World.block_lt_of_cell? v ⟨w.heap.size + 1, 0, none⟩ O1.c0) hob hob).trans (y1 j), fun j => (hu.frozen (p := ⟨w.heap.size, j, none⟩) (World.block_lt_of_cell? v ⟨w.heap.size, 0, none⟩ P1.c0) hpb hpb).trans (z1 j)⟩⟩
  have hne : w.heap.size ≠ w.heap.size + 1 := by omega
  rw [hd] at DS
  (have oc := O1); obtain ⟨o0, o1, o2, o3, o4, o5, o6, o7, o8, o9⟩ := oc
  clear P1 z1 y1
  go_wp2_with (go_at_call 104; (with_reducible refine DS.mono ?_); rintro e w2 ⟨he, hfr2⟩; obtain ⟨he', R2⟩ := he; subst he'; obtain ⟨O2, P2, y2, z2⟩ := HP.out _ hfr2; (have hR2 : Hid _ := ⟨R2⟩); clear R2; obtain ⟨i0, i1, i2, i3, i4, i5, i6, i7, i8, i9⟩ := O2; (have hP2 : Hid _ := ⟨P2⟩); obtain ⟨k0, k1, k2, k3, k4, k5, k6, k7, k8, k9⟩ := P2)
  have O3 := (hP2.out.fr ((Fr.refl (w.heap.size + 1) (w.heap.size + 1) w2).setA 7 (.int .i64 x)) (by omega) (by omega)).put ⟨o.k, o.r, o.b, o.x, o.s, o.rip, o.fs, x, o.nm, o.m⟩
  have R3 := (hR2.out.fr ((Fr.refl (w.heap.size + 1) (w.heap.size + 1) w2).setA 7 (.int .i64 x)) (by omega) (by omega)).fr ((Fr.refl w.heap.size w.heap.size _).put (.inl rfl) ⟨o.k, o.r, o.b, o.x, o.s, o.rip, o.fs, x, o.nm, o.m⟩) hlt hlt
  have F3 := ((F1.then hfr2).setN (c := w.heap.size + 1) (by omega) 7 (.int .i64 x)).put (c := w.heap.size) (.inr (.inr (Nat.le_refl _))) ⟨o.k, o.r, o.b, o.x, o.s, o.rip, o.fs, x, o.nm, o.m⟩
  dsimp only [setO] at O3 R3 F3
  have hT : Ends2 m O.val (fun a' => RS _ rb L a' fs rex opc sz md rg rm) (.returned (⟨o.k, o.r, o.b, o.x, o.s, o.rip, o.fs, x, o.nm, o.m⟩ : O).val) ∧ Fr rb rb w _ := ⟨by rw [HR.out]; exact ⟨by rw [Ho.out], R3⟩, F3⟩
  with_reducible refine bodyPost_ret (v := .agg #[.int .i64 o.k, .int .i64 o.r, .int .i64 o.b, .int .i64 o.x, .int .i64 o.s, .bool o.rip, .bool o.fs, .int .i64 x, .string o.nm, .int .i64 o.m]) (res_opd (p := 2) Try.results97 _ _ w.heap.size ⟨o.k, o.r, o.b, o.x, o.s, o.rip, o.fs, x, o.nm, o.m⟩ (by kernel_rfl) O3) (by kernel_rfl) hT
set_option maxHeartbeats 2000000 in
theorem place_fsok {w : World} {rb : Nat} {L : Ln} {a : Nat} {rex opc sz md rg rm : Int} (m : Except Int (O × Nat)) (ha : a ≤ L.len) (hr0 : 0 ≤ rm) (hr8 : rm < 8) (h : RS w rb L a true rex opc sz md rg rm) (h3 : (md == 3) = false) (h5 : (md == 0 && rm == 5) = false) (h4 : (rm == 4) = true) (h4n : (rm != 4) = false) (hl : a < L.len) (hx : (L.bs a == 37) = true) (x : Int) (a2 : Nat) (hd0 : dispM L (a + 1) md (-1) = .ok (x, a2)) (HR : Hid (m = .ok (memO (-1) (-1) 0 x false true, a2))) :
    Calls Try.prog 97 #[.pointer (some ⟨rb, 0, none⟩)] w fun e w' => Ends2 m O.val (fun a' => RS w' rb L a' true rex opc sz md rg rm) e ∧ Fr rb rb w w' := by
  have hlt := h.lt
  have R0 := (h.up zeroOb).up (memO (-1) (-1) 0 0 false false).box
  have O0 : OA ((w.alloc zeroOb).alloc (memO (-1) (-1) 0 0 false false).box) (w.heap.size + 1) (memO (-1) (-1) 0 0 false false) := by have := OA.new (w.alloc zeroOb) (memO (-1) (-1) 0 0 false false); simpa using this
  have P0 : ∀ o : O, OA ((w.alloc zeroOb).alloc o.box) w.heap.size zeroO := fun o => (show OA (w.alloc zeroOb) w.heap.size zeroO by exact OA.new w zeroO).bel (bel_alloc (Below.refl _ _) _)
  have zp : ∀ (o : O) j, ((w.alloc zeroOb).alloc o.box).frozen? ⟨w.heap.size, j, none⟩ = false := fun o j => fz_up _ _ _ _ (by simp) (fz_new _ _ _ _)
  have zo : ∀ (o : O) j, ((w.alloc zeroOb).alloc o.box).frozen? ⟨w.heap.size + 1, j, none⟩ = false := fun o j => by have := fz_new (w.alloc zeroOb) #[.int .i64 o.k, .int .i64 o.r, .int .i64 o.b, .int .i64 o.x, .int .i64 o.s, .bool o.rip, .bool o.fs, .int .i64 o.n, .string o.nm, .int .i64 o.m] 54 j; rw [show (w.alloc zeroOb).heap.size = w.heap.size + 1 by simp] at this; exact this
  have F0 : ∀ o : O, Fr rb rb w ((w.alloc zeroOb).alloc o.box) := fun o => ((Fr.refl rb rb w).alloc _).alloc _
  have HB := registerOf_any rm 1 hr0 hr8 R0
  generalize regOf rex rm 1 = B at *
  (have rc := R0); obtain ⟨d0, d1, d2, d3, d4, d5, d6, d7, d8, dz, dl⟩ := rc
  (have rc2 := h.up zeroOb); obtain ⟨g0, g1, g2, g3, g4, g5, g6, g7, g8, gz, gl⟩ := rc2
  have HF := isFromRip_any R0
  rw [h5] at HF
  have ha1 : a + 1 ≤ L.len := by omega
  have HN := next_ok R0 hl
  generalize L.bs a = X at *
  have hob : w.heap.size + 1 ≠ rb := by omega
  have hpb : w.heap.size ≠ rb := by omega
  have HX : Hid (∀ u, Fr rb rb ((w.alloc zeroOb).alloc (memO (-1) (-1) 0 0 false false).box) u → OA u (w.heap.size + 1) (memO (-1) (-1) 0 0 false false) ∧ OA u w.heap.size zeroO ∧ (∀ j, u.frozen? ⟨w.heap.size + 1, j, none⟩ = false) ∧ (∀ j, u.frozen? ⟨w.heap.size, j, none⟩ = false)) := ⟨fun u hu => ⟨O0.fr hu hob hob, (P0 _).fr hu hpb hpb,
    fun j => (hu.frozen (p := ⟨w.heap.size + 1, j, none⟩) (World.block_lt_of_cell? _ ⟨w.heap.size + 1, 0, none⟩ O0.c0) hob hob).trans (zo _ j), fun j => (hu.frozen (p := ⟨w.heap.size, j, none⟩) (World.block_lt_of_cell? _ ⟨w.heap.size, 0, none⟩ (P0 _).c0) hpb hpb).trans (zp _ j)⟩⟩
  have F9 := F0 (memO (-1) (-1) 0 0 false false)
  clear h O0 zp zo F0 P0
  go_enter Try.func97, Try.ntmps97
  go_upto_region 12 with (first | (go_at_call 71; (with_reducible refine HF.mono ?_); rintro e w9 ⟨rfl, hw9⟩; subst w9) | (go_at_call 66; (with_reducible refine (insist_yes _).mono ?_); rintro e w3 ⟨rfl, hw3⟩; subst w3) | (go_at_call 65; (with_reducible refine HN.mono ?_); rintro e w1 ⟨rfl, RN, hfrN⟩; obtain ⟨ON, PN, yN, zN⟩ := HX.out _ hfrN; (have onc := ON); obtain ⟨l0, l1, l2, l3, l4, l5, l6, l7, l8, l9⟩ := onc))
  have R1 := RN.fr ((Fr.refl (w.heap.size + 1) (w.heap.size + 1) w1).setA 6 (.bool true)) (by omega) (by omega)
  have O1 : OA _ (w.heap.size + 1) (memO (-1) (-1) 0 0 false true) := ON.set6 true
  have P1 := PN.fr ((Fr.refl (w.heap.size + 1) (w.heap.size + 1) w1).setA 6 (.bool true)) (by omega) (by omega)
  have y1 : ∀ j, (w1.setCell ⟨w.heap.size + 1, 6, none⟩ (.bool true)).frozen? ⟨w.heap.size + 1, j, none⟩ = false := fun j => (World.frozen?_setCell _ _ _ _).trans (yN j)
  have z1 : ∀ j, (w1.setCell ⟨w.heap.size + 1, 6, none⟩ (.bool true)).frozen? ⟨w.heap.size, j, none⟩ = false := fun j => (World.frozen?_setCell _ _ _ _).trans (zN j)
  have F1 := (F9.then hfrN).setN (c := w.heap.size + 1) (by omega) 6 (.bool true)
  clear hob hpb HX HN RN ON PN yN zN l0 l1 l2 l3 l4 l5 l6 l7 l8 l9
  generalize w1.setCell ⟨w.heap.size + 1, 6, none⟩ (.bool true) = v at *
  clear R0 d0 d1 d2 d3 d4 d5 d6 d7 d8 dz dl g0 g1 g2 g3 g4 g5 g6 g7 g8 gz gl HF HB
  obtain ⟨o, ho⟩ : ∃ o, o = memO (-1) (-1) 0 0 false true := ⟨_, rfl⟩
  rw [← ho] at O1
  have hd : dispM L (a + 1) md o.b = .ok (x, a2) := by rw [ho]; exact hd0
  have Ho : Hid (o = memO (-1) (-1) 0 0 false true) := ⟨ho⟩
  clear ho
  obtain ⟨hob, hpb⟩ : w.heap.size + 1 ≠ rb ∧ w.heap.size ≠ rb := ⟨by omega, by omega⟩
  have DS := disp_any o ha1 R1
  have HP : Hid (∀ u, Fr rb rb v u → OA u (w.heap.size + 1) o ∧ OA u w.heap.size zeroO ∧ (∀ j, u.frozen? ⟨w.heap.size + 1, j, none⟩ = false) ∧ (∀ j, u.frozen? ⟨w.heap.size, j, none⟩ = false)) := ⟨fun u hu => ⟨O1.fr hu hob hob, P1.fr hu hpb hpb,
    fun j => (hu.frozen (p := ⟨w.heap.size + 1, j, none⟩) (World.block_lt_of_cell? v ⟨w.heap.size + 1, 0, none⟩ O1.c0) hob hob).trans (y1 j), fun j => (hu.frozen (p := ⟨w.heap.size, j, none⟩) (World.block_lt_of_cell? v ⟨w.heap.size, 0, none⟩ P1.c0) hpb hpb).trans (z1 j)⟩⟩
  have hne : w.heap.size ≠ w.heap.size + 1 := by omega
  rw [hd] at DS
  (have oc := O1); obtain ⟨o0, o1, o2, o3, o4, o5, o6, o7, o8, o9⟩ := oc
  clear P1 z1 y1
  go_wp2_with (go_at_call 104; (with_reducible refine DS.mono ?_); rintro e w2 ⟨he, hfr2⟩; obtain ⟨he', R2⟩ := he; subst he'; obtain ⟨O2, P2, y2, z2⟩ := HP.out _ hfr2; (have hR2 : Hid _ := ⟨R2⟩); clear R2; obtain ⟨i0, i1, i2, i3, i4, i5, i6, i7, i8, i9⟩ := O2; (have hP2 : Hid _ := ⟨P2⟩); obtain ⟨k0, k1, k2, k3, k4, k5, k6, k7, k8, k9⟩ := P2)
  have O3 := (hP2.out.fr ((Fr.refl (w.heap.size + 1) (w.heap.size + 1) w2).setA 7 (.int .i64 x)) (by omega) (by omega)).put ⟨o.k, o.r, o.b, o.x, o.s, o.rip, o.fs, x, o.nm, o.m⟩
  have R3 := (hR2.out.fr ((Fr.refl (w.heap.size + 1) (w.heap.size + 1) w2).setA 7 (.int .i64 x)) (by omega) (by omega)).fr ((Fr.refl w.heap.size w.heap.size _).put (.inl rfl) ⟨o.k, o.r, o.b, o.x, o.s, o.rip, o.fs, x, o.nm, o.m⟩) hlt hlt
  have F3 := ((F1.then hfr2).setN (c := w.heap.size + 1) (by omega) 7 (.int .i64 x)).put (c := w.heap.size) (.inr (.inr (Nat.le_refl _))) ⟨o.k, o.r, o.b, o.x, o.s, o.rip, o.fs, x, o.nm, o.m⟩
  dsimp only [setO] at O3 R3 F3
  have hT : Ends2 m O.val (fun a' => RS _ rb L a' true rex opc sz md rg rm) (.returned (⟨o.k, o.r, o.b, o.x, o.s, o.rip, o.fs, x, o.nm, o.m⟩ : O).val) ∧ Fr rb rb w _ := ⟨by rw [HR.out]; exact ⟨by rw [Ho.out], R3⟩, F3⟩
  with_reducible refine bodyPost_ret (v := .agg #[.int .i64 o.k, .int .i64 o.r, .int .i64 o.b, .int .i64 o.x, .int .i64 o.s, .bool o.rip, .bool o.fs, .int .i64 x, .string o.nm, .int .i64 o.m]) (res_opd (p := 2) Try.results97 _ _ w.heap.size ⟨o.k, o.r, o.b, o.x, o.s, o.rip, o.fs, x, o.nm, o.m⟩ (by kernel_rfl) O3) (by kernel_rfl) hT
set_option maxHeartbeats 2000000 in
theorem place_sibok {w : World} {rb : Nat} {L : Ln} {a : Nat} {rex opc sz md rg rm : Int} (m : Except Int (O × Nat)) (ha : a ≤ L.len) (hr0 : 0 ≤ rm) (hr8 : rm < 8) (h : RS w rb L a false rex opc sz md rg rm) (h3 : (md == 3) = false) (h5 : (md == 0 && rm == 5) = false) (h4 : (rm == 4) = true) (h4n : (rm != 4) = false) (hl : a < L.len) (sb sx0 ss : Int) (hs : sibA rex md (L.bs a) = .ok (sb, sx0, ss)) (x : Int) (a2 : Nat) (hd0 : dispM L (a + 1) md sb = .ok (x, a2)) (HR : Hid (m = .ok (memO sb sx0 ss x false false, a2))) :
    Calls Try.prog 97 #[.pointer (some ⟨rb, 0, none⟩)] w fun e w' => Ends2 m O.val (fun a' => RS w' rb L a' false rex opc sz md rg rm) e ∧ Fr rb rb w w' := by
  have hlt := h.lt
  have R0 := (h.up zeroOb).up (memO (-1) (-1) 0 0 false false).box
  have O0 : OA ((w.alloc zeroOb).alloc (memO (-1) (-1) 0 0 false false).box) (w.heap.size + 1) (memO (-1) (-1) 0 0 false false) := by have := OA.new (w.alloc zeroOb) (memO (-1) (-1) 0 0 false false); simpa using this
  have P0 : ∀ o : O, OA ((w.alloc zeroOb).alloc o.box) w.heap.size zeroO := fun o => (show OA (w.alloc zeroOb) w.heap.size zeroO by exact OA.new w zeroO).bel (bel_alloc (Below.refl _ _) _)
  have zp : ∀ (o : O) j, ((w.alloc zeroOb).alloc o.box).frozen? ⟨w.heap.size, j, none⟩ = false := fun o j => fz_up _ _ _ _ (by simp) (fz_new _ _ _ _)
  have zo : ∀ (o : O) j, ((w.alloc zeroOb).alloc o.box).frozen? ⟨w.heap.size + 1, j, none⟩ = false := fun o j => by have := fz_new (w.alloc zeroOb) #[.int .i64 o.k, .int .i64 o.r, .int .i64 o.b, .int .i64 o.x, .int .i64 o.s, .bool o.rip, .bool o.fs, .int .i64 o.n, .string o.nm, .int .i64 o.m] 54 j; rw [show (w.alloc zeroOb).heap.size = w.heap.size + 1 by simp] at this; exact this
  have F0 : ∀ o : O, Fr rb rb w ((w.alloc zeroOb).alloc o.box) := fun o => ((Fr.refl rb rb w).alloc _).alloc _
  have HB := registerOf_any rm 1 hr0 hr8 R0
  generalize regOf rex rm 1 = B at *
  (have rc := R0); obtain ⟨d0, d1, d2, d3, d4, d5, d6, d7, d8, dz, dl⟩ := rc
  (have rc2 := h.up zeroOb); obtain ⟨g0, g1, g2, g3, g4, g5, g6, g7, g8, gz, gl⟩ := rc2
  have HF := isFromRip_any R0
  rw [h5] at HF
  have ha1 : a + 1 ≤ L.len := by omega
  have HN := sib_ok (ob := w.heap.size + 1) (by omega) hl R0 O0 (zo _)
  rw [hs] at HN
  have hpb : w.heap.size ≠ rb ∧ w.heap.size ≠ w.heap.size + 1 := by omega
  have HX : Hid (∀ u, Fr rb (w.heap.size + 1) ((w.alloc zeroOb).alloc (memO (-1) (-1) 0 0 false false).box) u → OA u w.heap.size zeroO ∧ (∀ j, u.frozen? ⟨w.heap.size, j, none⟩ = false)) := ⟨fun u hu => ⟨(P0 _).fr hu hpb.1 hpb.2,
    fun j => (hu.frozen (p := ⟨w.heap.size, j, none⟩) (World.block_lt_of_cell? _ ⟨w.heap.size, 0, none⟩ (P0 _).c0) hpb.1 hpb.2).trans (zp _ j)⟩⟩
  have F9 := F0 (memO (-1) (-1) 0 0 false false)
  clear h O0 zp zo F0 P0 hs hpb
  go_enter Try.func97, Try.ntmps97
  go_upto_region 12 with (first | (go_at_call 71; (with_reducible refine HF.mono ?_); rintro e w9 ⟨rfl, hw9⟩; subst w9) | (go_at_call 103; (with_reducible refine HN.mono ?_); rintro e v ⟨he, hfrN⟩; obtain ⟨he', R1, O1, y1⟩ := he; subst he'; obtain ⟨P1, z1⟩ := HX.out _ hfrN))
  have F1 : Fr rb rb w v := F9.trans hfrN (.inl rfl) (.inr (.inr (by omega)))
  clear HX HN
  clear R0 d0 d1 d2 d3 d4 d5 d6 d7 d8 dz dl g0 g1 g2 g3 g4 g5 g6 g7 g8 gz gl HF HB
  obtain ⟨o, ho⟩ : ∃ o, o = memO sb sx0 ss 0 false false := ⟨_, rfl⟩
  rw [← ho] at O1
  have hd : dispM L (a + 1) md o.b = .ok (x, a2) := by rw [ho]; exact hd0
  have Ho : Hid (o = memO sb sx0 ss 0 false false) := ⟨ho⟩
  clear ho
  obtain ⟨hob, hpb⟩ : w.heap.size + 1 ≠ rb ∧ w.heap.size ≠ rb := ⟨by omega, by omega⟩
  have DS := disp_any o ha1 R1
  have HP : Hid (∀ u, Fr rb rb v u → OA u (w.heap.size + 1) o ∧ OA u w.heap.size zeroO ∧ (∀ j, u.frozen? ⟨w.heap.size + 1, j, none⟩ = false) ∧ (∀ j, u.frozen? ⟨w.heap.size, j, none⟩ = false)) := ⟨fun u hu => ⟨O1.fr hu hob hob, P1.fr hu hpb hpb,
    fun j => (hu.frozen (p := ⟨w.heap.size + 1, j, none⟩) (World.block_lt_of_cell? v ⟨w.heap.size + 1, 0, none⟩ O1.c0) hob hob).trans (y1 j), fun j => (hu.frozen (p := ⟨w.heap.size, j, none⟩) (World.block_lt_of_cell? v ⟨w.heap.size, 0, none⟩ P1.c0) hpb hpb).trans (z1 j)⟩⟩
  have hne : w.heap.size ≠ w.heap.size + 1 := by omega
  rw [hd] at DS
  (have oc := O1); obtain ⟨o0, o1, o2, o3, o4, o5, o6, o7, o8, o9⟩ := oc
  clear P1 z1 y1
  go_wp2_with (go_at_call 104; (with_reducible refine DS.mono ?_); rintro e w2 ⟨he, hfr2⟩; obtain ⟨he', R2⟩ := he; subst he'; obtain ⟨O2, P2, y2, z2⟩ := HP.out _ hfr2; (have hR2 : Hid _ := ⟨R2⟩); clear R2; obtain ⟨i0, i1, i2, i3, i4, i5, i6, i7, i8, i9⟩ := O2; (have hP2 : Hid _ := ⟨P2⟩); obtain ⟨k0, k1, k2, k3, k4, k5, k6, k7, k8, k9⟩ := P2)
  have O3 := (hP2.out.fr ((Fr.refl (w.heap.size + 1) (w.heap.size + 1) w2).setA 7 (.int .i64 x)) (by omega) (by omega)).put ⟨o.k, o.r, o.b, o.x, o.s, o.rip, o.fs, x, o.nm, o.m⟩
  have R3 := (hR2.out.fr ((Fr.refl (w.heap.size + 1) (w.heap.size + 1) w2).setA 7 (.int .i64 x)) (by omega) (by omega)).fr ((Fr.refl w.heap.size w.heap.size _).put (.inl rfl) ⟨o.k, o.r, o.b, o.x, o.s, o.rip, o.fs, x, o.nm, o.m⟩) hlt hlt
  have F3 := ((F1.then hfr2).setN (c := w.heap.size + 1) (by omega) 7 (.int .i64 x)).put (c := w.heap.size) (.inr (.inr (Nat.le_refl _))) ⟨o.k, o.r, o.b, o.x, o.s, o.rip, o.fs, x, o.nm, o.m⟩
  dsimp only [setO] at O3 R3 F3
  have hT : Ends2 m O.val (fun a' => RS _ rb L a' false rex opc sz md rg rm) (.returned (⟨o.k, o.r, o.b, o.x, o.s, o.rip, o.fs, x, o.nm, o.m⟩ : O).val) ∧ Fr rb rb w _ := ⟨by rw [HR.out]; exact ⟨by rw [Ho.out], R3⟩, F3⟩
  with_reducible refine bodyPost_ret (v := .agg #[.int .i64 o.k, .int .i64 o.r, .int .i64 o.b, .int .i64 o.x, .int .i64 o.s, .bool o.rip, .bool o.fs, .int .i64 x, .string o.nm, .int .i64 o.m]) (res_opd (p := 2) Try.results97 _ _ w.heap.size ⟨o.k, o.r, o.b, o.x, o.s, o.rip, o.fs, x, o.nm, o.m⟩ (by kernel_rfl) O3) (by kernel_rfl) hT
set_option maxHeartbeats 2000000 in
theorem place_baseno {w : World} {rb : Nat} {L : Ln} {a : Nat} {fs : Bool} {rex opc sz md rg rm : Int} (m : Except Int (O × Nat)) (ha : a ≤ L.len) (hr0 : 0 ≤ rm) (hr8 : rm < 8) (h : RS w rb L a fs rex opc sz md rg rm) (h3 : (md == 3) = false) (h5 : (md == 0 && rm == 5) = false) (h4 : (rm == 4) = false) (h4n : (rm != 4) = true) (x : Int) (hd0 : dispM L a md (regOf rex rm 1) = .error x) (HR : Hid (m = .error x)) :
    Calls Try.prog 97 #[.pointer (some ⟨rb, 0, none⟩)] w fun e w' => Ends2 m O.val (fun a' => RS w' rb L a' fs rex opc sz md rg rm) e ∧ Fr rb rb w w' := by
  have hlt := h.lt
  have R0 := (h.up zeroOb).up (memO (-1) (-1) 0 0 false false).box
  have O0 : OA ((w.alloc zeroOb).alloc (memO (-1) (-1) 0 0 false false).box) (w.heap.size + 1) (memO (-1) (-1) 0 0 false false) := by have := OA.new (w.alloc zeroOb) (memO (-1) (-1) 0 0 false false); simpa using this
  have P0 : ∀ o : O, OA ((w.alloc zeroOb).alloc o.box) w.heap.size zeroO := fun o => (show OA (w.alloc zeroOb) w.heap.size zeroO by exact OA.new w zeroO).bel (bel_alloc (Below.refl _ _) _)
  have zp : ∀ (o : O) j, ((w.alloc zeroOb).alloc o.box).frozen? ⟨w.heap.size, j, none⟩ = false := fun o j => fz_up _ _ _ _ (by simp) (fz_new _ _ _ _)
  have zo : ∀ (o : O) j, ((w.alloc zeroOb).alloc o.box).frozen? ⟨w.heap.size + 1, j, none⟩ = false := fun o j => by have := fz_new (w.alloc zeroOb) #[.int .i64 o.k, .int .i64 o.r, .int .i64 o.b, .int .i64 o.x, .int .i64 o.s, .bool o.rip, .bool o.fs, .int .i64 o.n, .string o.nm, .int .i64 o.m] 54 j; rw [show (w.alloc zeroOb).heap.size = w.heap.size + 1 by simp] at this; exact this
  have F0 : ∀ o : O, Fr rb rb w ((w.alloc zeroOb).alloc o.box) := fun o => ((Fr.refl rb rb w).alloc _).alloc _
  have HB := registerOf_any rm 1 hr0 hr8 R0
  generalize regOf rex rm 1 = B at *
  (have rc := R0); obtain ⟨d0, d1, d2, d3, d4, d5, d6, d7, d8, dz, dl⟩ := rc
  (have rc2 := h.up zeroOb); obtain ⟨g0, g1, g2, g3, g4, g5, g6, g7, g8, gz, gl⟩ := rc2
  have HF := isFromRip_any R0
  rw [h5] at HF
  have ha1 := ha
  have R1 := (h.up zeroOb).up (memO B (-1) 0 0 false false).box
  have O1 : OA ((w.alloc zeroOb).alloc (memO B (-1) 0 0 false false).box) (w.heap.size + 1) (memO B (-1) 0 0 false false) := by have := OA.new (w.alloc zeroOb) (memO B (-1) 0 0 false false); simpa using this
  have P1 := P0 (memO B (-1) 0 0 false false)
  have z1 := zp (memO B (-1) 0 0 false false)
  have y1 := zo (memO B (-1) 0 0 false false)
  have F1 := F0 (memO B (-1) 0 0 false false)
  clear h O0 zp zo F0 P0
  go_enter Try.func97, Try.ntmps97
  go_upto_region 12 with (first | (go_at_call 71; (with_reducible refine HF.mono ?_); rintro e w9 ⟨rfl, hw9⟩; subst w9) | (go_at_call 74; (with_reducible refine HB.mono ?_); rintro e w1 ⟨rfl, hw1⟩; subst w1))
  generalize (w.alloc zeroOb).alloc (memO B (-1) 0 0 false false).box = v at *
  clear R0 d0 d1 d2 d3 d4 d5 d6 d7 d8 dz dl g0 g1 g2 g3 g4 g5 g6 g7 g8 gz gl HF HB
  obtain ⟨o, ho⟩ : ∃ o, o = memO B (-1) 0 0 false false := ⟨_, rfl⟩
  rw [← ho] at O1
  have hd : dispM L a md o.b = .error x := by rw [ho]; exact hd0
  have Ho : Hid (o = memO B (-1) 0 0 false false) := ⟨ho⟩
  clear ho
  obtain ⟨hob, hpb⟩ : w.heap.size + 1 ≠ rb ∧ w.heap.size ≠ rb := ⟨by omega, by omega⟩
  have DS := disp_any o ha1 R1
  have HP : Hid (∀ u, Fr rb rb v u → OA u (w.heap.size + 1) o ∧ OA u w.heap.size zeroO ∧ (∀ j, u.frozen? ⟨w.heap.size + 1, j, none⟩ = false) ∧ (∀ j, u.frozen? ⟨w.heap.size, j, none⟩ = false)) := ⟨fun u hu => ⟨O1.fr hu hob hob, P1.fr hu hpb hpb,
    fun j => (hu.frozen (p := ⟨w.heap.size + 1, j, none⟩) (World.block_lt_of_cell? v ⟨w.heap.size + 1, 0, none⟩ O1.c0) hob hob).trans (y1 j), fun j => (hu.frozen (p := ⟨w.heap.size, j, none⟩) (World.block_lt_of_cell? v ⟨w.heap.size, 0, none⟩ P1.c0) hpb hpb).trans (z1 j)⟩⟩
  have hne : w.heap.size ≠ w.heap.size + 1 := by omega
  rw [hd] at DS
  (have oc := O1); obtain ⟨o0, o1, o2, o3, o4, o5, o6, o7, o8, o9⟩ := oc
  clear P1 z1 y1
  go_wp2_with (go_at_call 104; (with_reducible refine DS.mono ?_); rintro e w2 ⟨he, hfr2⟩; (have he' : _ = _ := he); subst he')
  refine ⟨rfl, ?_, F1.then hfr2⟩
  rw [HR.out]; rfl
set_option maxHeartbeats 2000000 in
theorem place_fsno {w : World} {rb : Nat} {L : Ln} {a : Nat} {rex opc sz md rg rm : Int} (m : Except Int (O × Nat)) (ha : a ≤ L.len) (hr0 : 0 ≤ rm) (hr8 : rm < 8) (h : RS w rb L a true rex opc sz md rg rm) (h3 : (md == 3) = false) (h5 : (md == 0 && rm == 5) = false) (h4 : (rm == 4) = true) (h4n : (rm != 4) = false) (hl : a < L.len) (hx : (L.bs a == 37) = true) (x : Int) (hd0 : dispM L (a + 1) md (-1) = .error x) (HR : Hid (m = .error x)) :
    Calls Try.prog 97 #[.pointer (some ⟨rb, 0, none⟩)] w fun e w' => Ends2 m O.val (fun a' => RS w' rb L a' true rex opc sz md rg rm) e ∧ Fr rb rb w w' := by
  have hlt := h.lt
  have R0 := (h.up zeroOb).up (memO (-1) (-1) 0 0 false false).box
  have O0 : OA ((w.alloc zeroOb).alloc (memO (-1) (-1) 0 0 false false).box) (w.heap.size + 1) (memO (-1) (-1) 0 0 false false) := by have := OA.new (w.alloc zeroOb) (memO (-1) (-1) 0 0 false false); simpa using this
  have P0 : ∀ o : O, OA ((w.alloc zeroOb).alloc o.box) w.heap.size zeroO := fun o => (show OA (w.alloc zeroOb) w.heap.size zeroO by exact OA.new w zeroO).bel (bel_alloc (Below.refl _ _) _)
  have zp : ∀ (o : O) j, ((w.alloc zeroOb).alloc o.box).frozen? ⟨w.heap.size, j, none⟩ = false := fun o j => fz_up _ _ _ _ (by simp) (fz_new _ _ _ _)
  have zo : ∀ (o : O) j, ((w.alloc zeroOb).alloc o.box).frozen? ⟨w.heap.size + 1, j, none⟩ = false := fun o j => by have := fz_new (w.alloc zeroOb) #[.int .i64 o.k, .int .i64 o.r, .int .i64 o.b, .int .i64 o.x, .int .i64 o.s, .bool o.rip, .bool o.fs, .int .i64 o.n, .string o.nm, .int .i64 o.m] 54 j; rw [show (w.alloc zeroOb).heap.size = w.heap.size + 1 by simp] at this; exact this
  have F0 : ∀ o : O, Fr rb rb w ((w.alloc zeroOb).alloc o.box) := fun o => ((Fr.refl rb rb w).alloc _).alloc _
  have HB := registerOf_any rm 1 hr0 hr8 R0
  generalize regOf rex rm 1 = B at *
  (have rc := R0); obtain ⟨d0, d1, d2, d3, d4, d5, d6, d7, d8, dz, dl⟩ := rc
  (have rc2 := h.up zeroOb); obtain ⟨g0, g1, g2, g3, g4, g5, g6, g7, g8, gz, gl⟩ := rc2
  have HF := isFromRip_any R0
  rw [h5] at HF
  have ha1 : a + 1 ≤ L.len := by omega
  have HN := next_ok R0 hl
  generalize L.bs a = X at *
  have hob : w.heap.size + 1 ≠ rb := by omega
  have hpb : w.heap.size ≠ rb := by omega
  have HX : Hid (∀ u, Fr rb rb ((w.alloc zeroOb).alloc (memO (-1) (-1) 0 0 false false).box) u → OA u (w.heap.size + 1) (memO (-1) (-1) 0 0 false false) ∧ OA u w.heap.size zeroO ∧ (∀ j, u.frozen? ⟨w.heap.size + 1, j, none⟩ = false) ∧ (∀ j, u.frozen? ⟨w.heap.size, j, none⟩ = false)) := ⟨fun u hu => ⟨O0.fr hu hob hob, (P0 _).fr hu hpb hpb,
    fun j => (hu.frozen (p := ⟨w.heap.size + 1, j, none⟩) (World.block_lt_of_cell? _ ⟨w.heap.size + 1, 0, none⟩ O0.c0) hob hob).trans (zo _ j), fun j => (hu.frozen (p := ⟨w.heap.size, j, none⟩) (World.block_lt_of_cell? _ ⟨w.heap.size, 0, none⟩ (P0 _).c0) hpb hpb).trans (zp _ j)⟩⟩
  have F9 := F0 (memO (-1) (-1) 0 0 false false)
  clear h O0 zp zo F0 P0
  go_enter Try.func97, Try.ntmps97
  go_upto_region 12 with (first | (go_at_call 71; (with_reducible refine HF.mono ?_); rintro e w9 ⟨rfl, hw9⟩; subst w9) | (go_at_call 66; (with_reducible refine (insist_yes _).mono ?_); rintro e w3 ⟨rfl, hw3⟩; subst w3) | (go_at_call 65; (with_reducible refine HN.mono ?_); rintro e w1 ⟨rfl, RN, hfrN⟩; obtain ⟨ON, PN, yN, zN⟩ := HX.out _ hfrN; (have onc := ON); obtain ⟨l0, l1, l2, l3, l4, l5, l6, l7, l8, l9⟩ := onc))
  have R1 := RN.fr ((Fr.refl (w.heap.size + 1) (w.heap.size + 1) w1).setA 6 (.bool true)) (by omega) (by omega)
  have O1 : OA _ (w.heap.size + 1) (memO (-1) (-1) 0 0 false true) := ON.set6 true
  have P1 := PN.fr ((Fr.refl (w.heap.size + 1) (w.heap.size + 1) w1).setA 6 (.bool true)) (by omega) (by omega)
  have y1 : ∀ j, (w1.setCell ⟨w.heap.size + 1, 6, none⟩ (.bool true)).frozen? ⟨w.heap.size + 1, j, none⟩ = false := fun j => (World.frozen?_setCell _ _ _ _).trans (yN j)
  have z1 : ∀ j, (w1.setCell ⟨w.heap.size + 1, 6, none⟩ (.bool true)).frozen? ⟨w.heap.size, j, none⟩ = false := fun j => (World.frozen?_setCell _ _ _ _).trans (zN j)
  have F1 := (F9.then hfrN).setN (c := w.heap.size + 1) (by omega) 6 (.bool true)
  clear hob hpb HX HN RN ON PN yN zN l0 l1 l2 l3 l4 l5 l6 l7 l8 l9
  generalize w1.setCell ⟨w.heap.size + 1, 6, none⟩ (.bool true) = v at *
  clear R0 d0 d1 d2 d3 d4 d5 d6 d7 d8 dz dl g0 g1 g2 g3 g4 g5 g6 g7 g8 gz gl HF HB
  obtain ⟨o, ho⟩ : ∃ o, o = memO (-1) (-1) 0 0 false true := ⟨_, rfl⟩
  rw [← ho] at O1
  have hd : dispM L (a + 1) md o.b = .error x := by rw [ho]; exact hd0
  have Ho : Hid (o = memO (-1) (-1) 0 0 false true) := ⟨ho⟩
  clear ho
  obtain ⟨hob, hpb⟩ : w.heap.size + 1 ≠ rb ∧ w.heap.size ≠ rb := ⟨by omega, by omega⟩
  have DS := disp_any o ha1 R1
  have HP : Hid (∀ u, Fr rb rb v u → OA u (w.heap.size + 1) o ∧ OA u w.heap.size zeroO ∧ (∀ j, u.frozen? ⟨w.heap.size + 1, j, none⟩ = false) ∧ (∀ j, u.frozen? ⟨w.heap.size, j, none⟩ = false)) := ⟨fun u hu => ⟨O1.fr hu hob hob, P1.fr hu hpb hpb,
    fun j => (hu.frozen (p := ⟨w.heap.size + 1, j, none⟩) (World.block_lt_of_cell? v ⟨w.heap.size + 1, 0, none⟩ O1.c0) hob hob).trans (y1 j), fun j => (hu.frozen (p := ⟨w.heap.size, j, none⟩) (World.block_lt_of_cell? v ⟨w.heap.size, 0, none⟩ P1.c0) hpb hpb).trans (z1 j)⟩⟩
  have hne : w.heap.size ≠ w.heap.size + 1 := by omega
  rw [hd] at DS
  (have oc := O1); obtain ⟨o0, o1, o2, o3, o4, o5, o6, o7, o8, o9⟩ := oc
  clear P1 z1 y1
  go_wp2_with (go_at_call 104; (with_reducible refine DS.mono ?_); rintro e w2 ⟨he, hfr2⟩; (have he' : _ = _ := he); subst he')
  refine ⟨rfl, ?_, F1.then hfr2⟩
  rw [HR.out]; rfl
set_option maxHeartbeats 2000000 in
theorem place_sibno {w : World} {rb : Nat} {L : Ln} {a : Nat} {rex opc sz md rg rm : Int} (m : Except Int (O × Nat)) (ha : a ≤ L.len) (hr0 : 0 ≤ rm) (hr8 : rm < 8) (h : RS w rb L a false rex opc sz md rg rm) (h3 : (md == 3) = false) (h5 : (md == 0 && rm == 5) = false) (h4 : (rm == 4) = true) (h4n : (rm != 4) = false) (hl : a < L.len) (sb sx0 ss : Int) (hs : sibA rex md (L.bs a) = .ok (sb, sx0, ss)) (x : Int) (hd0 : dispM L (a + 1) md sb = .error x) (HR : Hid (m = .error x)) :
    Calls Try.prog 97 #[.pointer (some ⟨rb, 0, none⟩)] w fun e w' => Ends2 m O.val (fun a' => RS w' rb L a' false rex opc sz md rg rm) e ∧ Fr rb rb w w' := by
  have hlt := h.lt
  have R0 := (h.up zeroOb).up (memO (-1) (-1) 0 0 false false).box
  have O0 : OA ((w.alloc zeroOb).alloc (memO (-1) (-1) 0 0 false false).box) (w.heap.size + 1) (memO (-1) (-1) 0 0 false false) := by have := OA.new (w.alloc zeroOb) (memO (-1) (-1) 0 0 false false); simpa using this
  have P0 : ∀ o : O, OA ((w.alloc zeroOb).alloc o.box) w.heap.size zeroO := fun o => (show OA (w.alloc zeroOb) w.heap.size zeroO by exact OA.new w zeroO).bel (bel_alloc (Below.refl _ _) _)
  have zp : ∀ (o : O) j, ((w.alloc zeroOb).alloc o.box).frozen? ⟨w.heap.size, j, none⟩ = false := fun o j => fz_up _ _ _ _ (by simp) (fz_new _ _ _ _)
  have zo : ∀ (o : O) j, ((w.alloc zeroOb).alloc o.box).frozen? ⟨w.heap.size + 1, j, none⟩ = false := fun o j => by have := fz_new (w.alloc zeroOb) #[.int .i64 o.k, .int .i64 o.r, .int .i64 o.b, .int .i64 o.x, .int .i64 o.s, .bool o.rip, .bool o.fs, .int .i64 o.n, .string o.nm, .int .i64 o.m] 54 j; rw [show (w.alloc zeroOb).heap.size = w.heap.size + 1 by simp] at this; exact this
  have F0 : ∀ o : O, Fr rb rb w ((w.alloc zeroOb).alloc o.box) := fun o => ((Fr.refl rb rb w).alloc _).alloc _
  have HB := registerOf_any rm 1 hr0 hr8 R0
  generalize regOf rex rm 1 = B at *
  (have rc := R0); obtain ⟨d0, d1, d2, d3, d4, d5, d6, d7, d8, dz, dl⟩ := rc
  (have rc2 := h.up zeroOb); obtain ⟨g0, g1, g2, g3, g4, g5, g6, g7, g8, gz, gl⟩ := rc2
  have HF := isFromRip_any R0
  rw [h5] at HF
  have ha1 : a + 1 ≤ L.len := by omega
  have HN := sib_ok (ob := w.heap.size + 1) (by omega) hl R0 O0 (zo _)
  rw [hs] at HN
  have hpb : w.heap.size ≠ rb ∧ w.heap.size ≠ w.heap.size + 1 := by omega
  have HX : Hid (∀ u, Fr rb (w.heap.size + 1) ((w.alloc zeroOb).alloc (memO (-1) (-1) 0 0 false false).box) u → OA u w.heap.size zeroO ∧ (∀ j, u.frozen? ⟨w.heap.size, j, none⟩ = false)) := ⟨fun u hu => ⟨(P0 _).fr hu hpb.1 hpb.2,
    fun j => (hu.frozen (p := ⟨w.heap.size, j, none⟩) (World.block_lt_of_cell? _ ⟨w.heap.size, 0, none⟩ (P0 _).c0) hpb.1 hpb.2).trans (zp _ j)⟩⟩
  have F9 := F0 (memO (-1) (-1) 0 0 false false)
  clear h O0 zp zo F0 P0 hs hpb
  go_enter Try.func97, Try.ntmps97
  go_upto_region 12 with (first | (go_at_call 71; (with_reducible refine HF.mono ?_); rintro e w9 ⟨rfl, hw9⟩; subst w9) | (go_at_call 103; (with_reducible refine HN.mono ?_); rintro e v ⟨he, hfrN⟩; obtain ⟨he', R1, O1, y1⟩ := he; subst he'; obtain ⟨P1, z1⟩ := HX.out _ hfrN))
  have F1 : Fr rb rb w v := F9.trans hfrN (.inl rfl) (.inr (.inr (by omega)))
  clear HX HN
  clear R0 d0 d1 d2 d3 d4 d5 d6 d7 d8 dz dl g0 g1 g2 g3 g4 g5 g6 g7 g8 gz gl HF HB
  obtain ⟨o, ho⟩ : ∃ o, o = memO sb sx0 ss 0 false false := ⟨_, rfl⟩
  rw [← ho] at O1
  have hd : dispM L (a + 1) md o.b = .error x := by rw [ho]; exact hd0
  have Ho : Hid (o = memO sb sx0 ss 0 false false) := ⟨ho⟩
  clear ho
  obtain ⟨hob, hpb⟩ : w.heap.size + 1 ≠ rb ∧ w.heap.size ≠ rb := ⟨by omega, by omega⟩
  have DS := disp_any o ha1 R1
  have HP : Hid (∀ u, Fr rb rb v u → OA u (w.heap.size + 1) o ∧ OA u w.heap.size zeroO ∧ (∀ j, u.frozen? ⟨w.heap.size + 1, j, none⟩ = false) ∧ (∀ j, u.frozen? ⟨w.heap.size, j, none⟩ = false)) := ⟨fun u hu => ⟨O1.fr hu hob hob, P1.fr hu hpb hpb,
    fun j => (hu.frozen (p := ⟨w.heap.size + 1, j, none⟩) (World.block_lt_of_cell? v ⟨w.heap.size + 1, 0, none⟩ O1.c0) hob hob).trans (y1 j), fun j => (hu.frozen (p := ⟨w.heap.size, j, none⟩) (World.block_lt_of_cell? v ⟨w.heap.size, 0, none⟩ P1.c0) hpb hpb).trans (z1 j)⟩⟩
  have hne : w.heap.size ≠ w.heap.size + 1 := by omega
  rw [hd] at DS
  (have oc := O1); obtain ⟨o0, o1, o2, o3, o4, o5, o6, o7, o8, o9⟩ := oc
  clear P1 z1 y1
  go_wp2_with (go_at_call 104; (with_reducible refine DS.mono ?_); rintro e w2 ⟨he, hfr2⟩; (have he' : _ = _ := he); subst he')
  refine ⟨rfl, ?_, F1.then hfr2⟩
  rw [HR.out]; rfl
set_option maxHeartbeats 2000000 in
theorem place_fsend {w : World} {rb : Nat} {L : Ln} {a : Nat} {rex opc sz md rg rm : Int} (m : Except Int (O × Nat)) (ha : a ≤ L.len) (hr0 : 0 ≤ rm) (hr8 : rm < 8) (h : RS w rb L a true rex opc sz md rg rm) (h3 : (md == 3) = false) (h5 : (md == 0 && rm == 5) = false) (h4 : (rm == 4) = true) (h4n : (rm != 4) = false) (hl : a = L.len) (HR : Hid (m = .error 20)) :
    Calls Try.prog 97 #[.pointer (some ⟨rb, 0, none⟩)] w fun e w' => Ends2 m O.val (fun a' => RS w' rb L a' true rex opc sz md rg rm) e ∧ Fr rb rb w w' := by
  have hlt := h.lt
  have R0 := (h.up zeroOb).up (memO (-1) (-1) 0 0 false false).box
  have O0 : OA ((w.alloc zeroOb).alloc (memO (-1) (-1) 0 0 false false).box) (w.heap.size + 1) (memO (-1) (-1) 0 0 false false) := by have := OA.new (w.alloc zeroOb) (memO (-1) (-1) 0 0 false false); simpa using this
  have P0 : ∀ o : O, OA ((w.alloc zeroOb).alloc o.box) w.heap.size zeroO := fun o => (show OA (w.alloc zeroOb) w.heap.size zeroO by exact OA.new w zeroO).bel (bel_alloc (Below.refl _ _) _)
  have zp : ∀ (o : O) j, ((w.alloc zeroOb).alloc o.box).frozen? ⟨w.heap.size, j, none⟩ = false := fun o j => fz_up _ _ _ _ (by simp) (fz_new _ _ _ _)
  have zo : ∀ (o : O) j, ((w.alloc zeroOb).alloc o.box).frozen? ⟨w.heap.size + 1, j, none⟩ = false := fun o j => by have := fz_new (w.alloc zeroOb) #[.int .i64 o.k, .int .i64 o.r, .int .i64 o.b, .int .i64 o.x, .int .i64 o.s, .bool o.rip, .bool o.fs, .int .i64 o.n, .string o.nm, .int .i64 o.m] 54 j; rw [show (w.alloc zeroOb).heap.size = w.heap.size + 1 by simp] at this; exact this
  have F0 : ∀ o : O, Fr rb rb w ((w.alloc zeroOb).alloc o.box) := fun o => ((Fr.refl rb rb w).alloc _).alloc _
  have HB := registerOf_any rm 1 hr0 hr8 R0
  generalize regOf rex rm 1 = B at *
  (have rc := R0); obtain ⟨d0, d1, d2, d3, d4, d5, d6, d7, d8, dz, dl⟩ := rc
  (have rc2 := h.up zeroOb); obtain ⟨g0, g1, g2, g3, g4, g5, g6, g7, g8, gz, gl⟩ := rc2
  have HF := isFromRip_any R0
  rw [h5] at HF
  have HN := next_end R0 hl
  have F9 := F0 (memO (-1) (-1) 0 0 false false)
  clear h O0 zp zo F0 P0
  go_enter Try.func97, Try.ntmps97
  go_wp2_with (first | (go_at_call 71; (with_reducible refine HF.mono ?_); rintro e w9 ⟨rfl, hw9⟩; subst w9) | (go_at_call 65; (with_reducible refine HN.mono ?_); rintro e w1 ⟨rfl, hfrN⟩))
  refine ⟨rfl, ?_, by first | exact F9.then hfrN | exact F9.trans hfrN (.inl rfl) (.inr (.inr (by omega)))⟩
  rw [HR.out]; rfl
set_option maxHeartbeats 2000000 in
theorem place_fsbad {w : World} {rb : Nat} {L : Ln} {a : Nat} {rex opc sz md rg rm : Int} (m : Except Int (O × Nat)) (ha : a ≤ L.len) (hr0 : 0 ≤ rm) (hr8 : rm < 8) (h : RS w rb L a true rex opc sz md rg rm) (h3 : (md == 3) = false) (h5 : (md == 0 && rm == 5) = false) (h4 : (rm == 4) = true) (h4n : (rm != 4) = false) (hl : a < L.len) (hx : (L.bs a == 37) = false) (HR : Hid (m = .error 30)) :
    Calls Try.prog 97 #[.pointer (some ⟨rb, 0, none⟩)] w fun e w' => Ends2 m O.val (fun a' => RS w' rb L a' true rex opc sz md rg rm) e ∧ Fr rb rb w w' := by
  have hlt := h.lt
  have R0 := (h.up zeroOb).up (memO (-1) (-1) 0 0 false false).box
  have O0 : OA ((w.alloc zeroOb).alloc (memO (-1) (-1) 0 0 false false).box) (w.heap.size + 1) (memO (-1) (-1) 0 0 false false) := by have := OA.new (w.alloc zeroOb) (memO (-1) (-1) 0 0 false false); simpa using this
  have P0 : ∀ o : O, OA ((w.alloc zeroOb).alloc o.box) w.heap.size zeroO := fun o => (show OA (w.alloc zeroOb) w.heap.size zeroO by exact OA.new w zeroO).bel (bel_alloc (Below.refl _ _) _)
  have zp : ∀ (o : O) j, ((w.alloc zeroOb).alloc o.box).frozen? ⟨w.heap.size, j, none⟩ = false := fun o j => fz_up _ _ _ _ (by simp) (fz_new _ _ _ _)
  have zo : ∀ (o : O) j, ((w.alloc zeroOb).alloc o.box).frozen? ⟨w.heap.size + 1, j, none⟩ = false := fun o j => by have := fz_new (w.alloc zeroOb) #[.int .i64 o.k, .int .i64 o.r, .int .i64 o.b, .int .i64 o.x, .int .i64 o.s, .bool o.rip, .bool o.fs, .int .i64 o.n, .string o.nm, .int .i64 o.m] 54 j; rw [show (w.alloc zeroOb).heap.size = w.heap.size + 1 by simp] at this; exact this
  have F0 : ∀ o : O, Fr rb rb w ((w.alloc zeroOb).alloc o.box) := fun o => ((Fr.refl rb rb w).alloc _).alloc _
  have HB := registerOf_any rm 1 hr0 hr8 R0
  generalize regOf rex rm 1 = B at *
  (have rc := R0); obtain ⟨d0, d1, d2, d3, d4, d5, d6, d7, d8, dz, dl⟩ := rc
  (have rc2 := h.up zeroOb); obtain ⟨g0, g1, g2, g3, g4, g5, g6, g7, g8, gz, gl⟩ := rc2
  have HF := isFromRip_any R0
  rw [h5] at HF
  have HN := next_ok R0 hl
  generalize L.bs a = X at *
  have F9 := F0 (memO (-1) (-1) 0 0 false false)
  clear h O0 zp zo F0 P0
  go_enter Try.func97, Try.ntmps97
  go_wp2_with (first | (go_at_call 71; (with_reducible refine HF.mono ?_); rintro e w9 ⟨rfl, hw9⟩; subst w9) | (go_at_call 66; (with_reducible refine (insist_no _).mono ?_); rintro e w3 ⟨rfl, hw3⟩; subst w3) | (go_at_call 65; (with_reducible refine HN.mono ?_); rintro e w1 ⟨rfl, RN, hfrN⟩))
  refine ⟨rfl, ?_, by first | exact F9.then hfrN | exact F9.trans hfrN (.inl rfl) (.inr (.inr (by omega)))⟩
  rw [HR.out]; rfl
set_option maxHeartbeats 2000000 in
theorem place_sibend {w : World} {rb : Nat} {L : Ln} {a : Nat} {rex opc sz md rg rm : Int} (m : Except Int (O × Nat)) (ha : a ≤ L.len) (hr0 : 0 ≤ rm) (hr8 : rm < 8) (h : RS w rb L a false rex opc sz md rg rm) (h3 : (md == 3) = false) (h5 : (md == 0 && rm == 5) = false) (h4 : (rm == 4) = true) (h4n : (rm != 4) = false) (hl : a = L.len) (HR : Hid (m = .error 20)) :
    Calls Try.prog 97 #[.pointer (some ⟨rb, 0, none⟩)] w fun e w' => Ends2 m O.val (fun a' => RS w' rb L a' false rex opc sz md rg rm) e ∧ Fr rb rb w w' := by
  have hlt := h.lt
  have R0 := (h.up zeroOb).up (memO (-1) (-1) 0 0 false false).box
  have O0 : OA ((w.alloc zeroOb).alloc (memO (-1) (-1) 0 0 false false).box) (w.heap.size + 1) (memO (-1) (-1) 0 0 false false) := by have := OA.new (w.alloc zeroOb) (memO (-1) (-1) 0 0 false false); simpa using this
  have P0 : ∀ o : O, OA ((w.alloc zeroOb).alloc o.box) w.heap.size zeroO := fun o => (show OA (w.alloc zeroOb) w.heap.size zeroO by exact OA.new w zeroO).bel (bel_alloc (Below.refl _ _) _)
  have zp : ∀ (o : O) j, ((w.alloc zeroOb).alloc o.box).frozen? ⟨w.heap.size, j, none⟩ = false := fun o j => fz_up _ _ _ _ (by simp) (fz_new _ _ _ _)
  have zo : ∀ (o : O) j, ((w.alloc zeroOb).alloc o.box).frozen? ⟨w.heap.size + 1, j, none⟩ = false := fun o j => by have := fz_new (w.alloc zeroOb) #[.int .i64 o.k, .int .i64 o.r, .int .i64 o.b, .int .i64 o.x, .int .i64 o.s, .bool o.rip, .bool o.fs, .int .i64 o.n, .string o.nm, .int .i64 o.m] 54 j; rw [show (w.alloc zeroOb).heap.size = w.heap.size + 1 by simp] at this; exact this
  have F0 : ∀ o : O, Fr rb rb w ((w.alloc zeroOb).alloc o.box) := fun o => ((Fr.refl rb rb w).alloc _).alloc _
  have HB := registerOf_any rm 1 hr0 hr8 R0
  generalize regOf rex rm 1 = B at *
  (have rc := R0); obtain ⟨d0, d1, d2, d3, d4, d5, d6, d7, d8, dz, dl⟩ := rc
  (have rc2 := h.up zeroOb); obtain ⟨g0, g1, g2, g3, g4, g5, g6, g7, g8, gz, gl⟩ := rc2
  have HF := isFromRip_any R0
  rw [h5] at HF
  have HN := sib_end (ob := w.heap.size + 1) hl R0
  have F9 := F0 (memO (-1) (-1) 0 0 false false)
  clear h O0 zp zo F0 P0
  go_enter Try.func97, Try.ntmps97
  go_wp2_with (first | (go_at_call 71; (with_reducible refine HF.mono ?_); rintro e w9 ⟨rfl, hw9⟩; subst w9) | (go_at_call 103; (with_reducible refine HN.mono ?_); rintro e w1 ⟨rfl, hfrN⟩))
  refine ⟨rfl, ?_, by first | exact F9.then hfrN | exact F9.trans hfrN (.inl rfl) (.inr (.inr (by omega)))⟩
  rw [HR.out]; rfl
set_option maxHeartbeats 2000000 in
theorem place_sibbad {w : World} {rb : Nat} {L : Ln} {a : Nat} {rex opc sz md rg rm : Int} (m : Except Int (O × Nat)) (ha : a ≤ L.len) (hr0 : 0 ≤ rm) (hr8 : rm < 8) (h : RS w rb L a false rex opc sz md rg rm) (h3 : (md == 3) = false) (h5 : (md == 0 && rm == 5) = false) (h4 : (rm == 4) = true) (h4n : (rm != 4) = false) (hl : a < L.len) (n : Int) (hs : sibA rex md (L.bs a) = .error n) (HR : Hid (m = .error n)) :
    Calls Try.prog 97 #[.pointer (some ⟨rb, 0, none⟩)] w fun e w' => Ends2 m O.val (fun a' => RS w' rb L a' false rex opc sz md rg rm) e ∧ Fr rb rb w w' := by
  have hlt := h.lt
  have R0 := (h.up zeroOb).up (memO (-1) (-1) 0 0 false false).box
  have O0 : OA ((w.alloc zeroOb).alloc (memO (-1) (-1) 0 0 false false).box) (w.heap.size + 1) (memO (-1) (-1) 0 0 false false) := by have := OA.new (w.alloc zeroOb) (memO (-1) (-1) 0 0 false false); simpa using this
  have P0 : ∀ o : O, OA ((w.alloc zeroOb).alloc o.box) w.heap.size zeroO := fun o => (show OA (w.alloc zeroOb) w.heap.size zeroO by exact OA.new w zeroO).bel (bel_alloc (Below.refl _ _) _)
  have zp : ∀ (o : O) j, ((w.alloc zeroOb).alloc o.box).frozen? ⟨w.heap.size, j, none⟩ = false := fun o j => fz_up _ _ _ _ (by simp) (fz_new _ _ _ _)
  have zo : ∀ (o : O) j, ((w.alloc zeroOb).alloc o.box).frozen? ⟨w.heap.size + 1, j, none⟩ = false := fun o j => by have := fz_new (w.alloc zeroOb) #[.int .i64 o.k, .int .i64 o.r, .int .i64 o.b, .int .i64 o.x, .int .i64 o.s, .bool o.rip, .bool o.fs, .int .i64 o.n, .string o.nm, .int .i64 o.m] 54 j; rw [show (w.alloc zeroOb).heap.size = w.heap.size + 1 by simp] at this; exact this
  have F0 : ∀ o : O, Fr rb rb w ((w.alloc zeroOb).alloc o.box) := fun o => ((Fr.refl rb rb w).alloc _).alloc _
  have HB := registerOf_any rm 1 hr0 hr8 R0
  generalize regOf rex rm 1 = B at *
  (have rc := R0); obtain ⟨d0, d1, d2, d3, d4, d5, d6, d7, d8, dz, dl⟩ := rc
  (have rc2 := h.up zeroOb); obtain ⟨g0, g1, g2, g3, g4, g5, g6, g7, g8, gz, gl⟩ := rc2
  have HF := isFromRip_any R0
  rw [h5] at HF
  have HN := sib_ok (ob := w.heap.size + 1) (by omega) hl R0 O0 (zo _)
  rw [hs] at HN
  clear hs
  have F9 := F0 (memO (-1) (-1) 0 0 false false)
  clear h O0 zp zo F0 P0
  go_enter Try.func97, Try.ntmps97
  go_wp2_with (first | (go_at_call 71; (with_reducible refine HF.mono ?_); rintro e w9 ⟨rfl, hw9⟩; subst w9) | (go_at_call 103; (with_reducible refine HN.mono ?_); rintro e w1 ⟨he, hfrN⟩; (have he' : _ = _ := he); subst he'))
  refine ⟨rfl, ?_, by first | exact F9.then hfrN | exact F9.trans hfrN (.inl rfl) (.inr (.inr (by omega)))⟩
  rw [HR.out]; rfl

theorem place_any {w : World} {rb : Nat} {L : Ln} {a : Nat} {fs : Bool} {rex opc sz md rg rm : Int} (ha : a ≤ L.len) (hr0 : 0 ≤ rm) (hr8 : rm < 8) (h : RS w rb L a fs rex opc sz md rg rm) :
    Calls Try.prog 97 #[.pointer (some ⟨rb, 0, none⟩)] w fun e w' => Ends2 (placeM L a fs rex md rm) O.val (fun a' => RS w' rb L a' fs rex opc sz md rg rm) e ∧ Fr rb rb w w' := by
  cases h3 : (md == 3)
  case true => exact place_reg _ ha hr0 hr8 h h3 ⟨by simp only [placeM, h3, if_true]⟩
  cases h5 : (md == 0 && rm == 5)
  case true =>
    have e0 : memM L a fs rex md rm = .ok (memO (-1) (-1) 0 0 true false, a) := by simp only [memM, h5, if_true]
    rcases hd : dispM L a md (-1) with x | ⟨x, a2⟩
    · exact place_ripno _ ha hr0 hr8 h h3 h5 x hd ⟨by simp only [placeM, h3, e0, hd, bind, Except.bind, Bool.false_eq_true, if_false]⟩
    · exact place_ripok _ ha hr0 hr8 h h3 h5 x a2 hd ⟨by simp only [placeM, h3, e0, hd, bind, Except.bind, Bool.false_eq_true, if_false]⟩
  cases h4 : (rm == 4)
  case false =>
    have h4n : (rm != 4) = true := by simp [bne, h4]
    have e0 : memM L a fs rex md rm = .ok (memO (regOf rex rm 1) (-1) 0 0 false false, a) := by simp only [memM, h5, h4, Bool.false_eq_true, if_false, if_true]
    rcases hd : dispM L a md (regOf rex rm 1) with x | ⟨x, a2⟩
    · exact place_baseno _ ha hr0 hr8 h h3 h5 h4 h4n x hd ⟨by simp only [placeM, h3, e0, hd, bind, Except.bind, Bool.false_eq_true, if_false]⟩
    · exact place_baseok _ ha hr0 hr8 h h3 h5 h4 h4n x a2 hd ⟨by simp only [placeM, h3, e0, hd, bind, Except.bind, Bool.false_eq_true, if_false]⟩
  have h4n : (rm != 4) = false := by simp [bne, h4]
  cases fs
  case true =>
    by_cases hl : a < L.len
    · cases hx : (L.bs a == 37)
      · have e0 : memM L a true rex md rm = .error 30 := by simp only [memM, h5, h4, nxt, hl, hx, must, bind, Except.bind, Bool.false_eq_true, if_false, if_true, Bool.true_eq_false]
        exact place_fsbad _ ha hr0 hr8 h h3 h5 h4 h4n hl hx ⟨by simp only [placeM, h3, e0, bind, Except.bind, Bool.false_eq_true, if_false]⟩
      · have e0 : memM L a true rex md rm = .ok (memO (-1) (-1) 0 0 false true, a + 1) := by simp only [memM, h5, h4, nxt, hl, hx, must, bind, Except.bind, Bool.false_eq_true, if_false, if_true, Bool.true_eq_false]
        rcases hd : dispM L (a + 1) md (-1) with x | ⟨x, a2⟩
        · exact place_fsno _ ha hr0 hr8 h h3 h5 h4 h4n hl hx x hd ⟨by simp only [placeM, h3, e0, hd, bind, Except.bind, Bool.false_eq_true, if_false]⟩
        · exact place_fsok _ ha hr0 hr8 h h3 h5 h4 h4n hl hx x a2 hd ⟨by simp only [placeM, h3, e0, hd, bind, Except.bind, Bool.false_eq_true, if_false]⟩
    · have e0 : memM L a true rex md rm = .error 20 := by simp only [memM, h5, h4, nxt, hl, bind, Except.bind, Bool.false_eq_true, if_false, if_true, Bool.true_eq_false]
      exact place_fsend _ ha hr0 hr8 h h3 h5 h4 h4n (by omega) ⟨by simp only [placeM, h3, e0, bind, Except.bind, Bool.false_eq_true, if_false]⟩
  by_cases hl : a < L.len
  · rcases hs : sibA rex md (L.bs a) with n | ⟨sb, sx0, ss⟩
    · have e0 : memM L a false rex md rm = .error n := by simp only [memM, h5, h4, nxt, hl, hs, bind, Except.bind, Bool.false_eq_true, if_false, if_true, Bool.true_eq_false]
      exact place_sibbad _ ha hr0 hr8 h h3 h5 h4 h4n hl n hs ⟨by simp only [placeM, h3, e0, bind, Except.bind, Bool.false_eq_true, if_false]⟩
    · have e0 : memM L a false rex md rm = .ok (memO sb sx0 ss 0 false false, a + 1) := by simp only [memM, h5, h4, nxt, hl, hs, bind, Except.bind, Bool.false_eq_true, if_false, if_true, Bool.true_eq_false]
      rcases hd : dispM L (a + 1) md sb with x | ⟨x, a2⟩
      · exact place_sibno _ ha hr0 hr8 h h3 h5 h4 h4n hl sb sx0 ss hs x hd ⟨by simp only [placeM, h3, e0, hd, bind, Except.bind, Bool.false_eq_true, if_false]⟩
      · exact place_sibok _ ha hr0 hr8 h h3 h5 h4 h4n hl sb sx0 ss hs x a2 hd ⟨by simp only [placeM, h3, e0, hd, bind, Except.bind, Bool.false_eq_true, if_false]⟩
  · have e0 : memM L a false rex md rm = .error 20 := by simp only [memM, h5, h4, nxt, hl, bind, Except.bind, Bool.false_eq_true, if_false, if_true, Bool.true_eq_false]
    exact place_sibend _ ha hr0 hr8 h h3 h5 h4 h4n (by omega) ⟨by simp only [placeM, h3, e0, bind, Except.bind, Bool.false_eq_true, if_false]⟩
end Go.Proofs.Ytjbepojopfbajaa
