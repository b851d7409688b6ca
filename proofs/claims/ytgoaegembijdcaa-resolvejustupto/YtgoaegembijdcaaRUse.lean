/- What is known of a name: defined, with. -/
import Derived.Test.YtgoaegembijdcaaRSmall
namespace Go.Proofs.Ytgoaegembijdcaa
open Go.ChangeShapes Go.WideShapes Go.ChangeAt Go.RowKit Go.Maps
set_option linter.unusedVariables false
set_option linter.unusedSimpArgs false

theorem al2 (w : World) (A B : Obj) : ((w.alloc A).alloc B).heap[w.heap.size + 1]? = some B := by
  have := heap_alloc_new (w.alloc A) B
  simpa using this
theorem al3 (w : World) (A B C : Obj) : (((w.alloc A).alloc B).alloc C).heap[w.heap.size + 1 + 1]? = some C := by
  have := al2 (w.alloc A) B C
  simpa using this
theorem bl2 (w : World) (A B : Obj) : Below w.heap.size w ((w.alloc A).alloc B) := ((Below.refl _ _).alloc (Nat.le_refl _) _).alloc (by simp) _
theorem bl3 (w : World) (A B C : Obj) : Below w.heap.size w (((w.alloc A).alloc B).alloc C) := (bl2 w A B).alloc (by simp; omega) _
theorem Bk.setC {w : World} {b t : Nat} {cs : Array Value} (h : Bk w b t cs) (j : Nat) (v : Value) : Bk (w.setCell ⟨b, j, none⟩ v) b t (cs.setIfInBounds j v) := by
  rw [setCell_eq_setRow w b j cs t (0, 0) v h.hp]
  exact h.setR _
theorem Bk.setCo {w : World} {b t : Nat} {cs : Array Value} (h : Bk w b t cs) (p : Addr) (v : Value) (hp : b ≠ p.block) : Bk (w.setCell p v) b t cs := h.of (Below.heap_setCell _ _ _ _ hp)
theorem bel_setC {B : Nat} {w v : World} (h : Below B w v) (p : Addr) (hp : B ≤ p.block) (x : Value) : Below B w (v.setCell p x) :=
  ⟨h.os, h.tape, h.output, by have := h.size; simpa [World.setCell] using this, fun k hk => by rw [Below.heap_setCell _ _ _ _ (by omega)]; exact h.block k hk⟩
theorem bt {B : Nat} {w v v' : World} (hB : w.heap.size = B) (h : Below B w v) (g : Below v.heap.size v v') : Below B w v' := h.trans (g.mono (by have := h.size; omega))
theorem bel_setR {B : Nat} {w v : World} (h : Below B w v) (b : Nat) (hb : B ≤ b) (V : Array Value) : Below B w (v.setRow b V) := h.trans ⟨rfl, rfl, rfl, by simp, fun j hj => setRow_other _ b j _ (by omega)⟩

set_option maxHeartbeats 2000000 in
set_option maxRecDepth 10000 in
theorem defined_any (u : Us) (x : En) (w : World) : Calls Try.prog 50 #[u.val, x.val] w fun e w' => e = .returned (defU u x).val ∧ Below w.heap.size w w' := by
  obtain ⟨⟨mn, mo, mk, mb, mt⟩, d, st, wa, tl, ot⟩ := u
  obtain ⟨xn, xo, xk, xb, xt⟩ := x
  obtain ⟨p, hp⟩ : ∃ p, (xb == 1) = p := ⟨_, rfl⟩
  unfold defU
  dsimp only [Us.val, En.val]
  rw [hp]
  cases p <;> cases d
  all_goals
    go_enter Try.func50, Try.ntmps50
    go_wp2
    refine bodyPost_ret (v := .agg _) (results_cell_row (p := 4) (ty := 82) (by kernel_rfl) _ _ (w.heap.size + 1 + 1) 82 _ (0, 0) _ (by kernel_rfl) (al3 _ _ _ _) Try.underlying82 rfl (by kernel_rfl)) rfl ⟨rfl, bl3 _ _ _ _⟩

set_option maxHeartbeats 2000000 in
theorem withS_any (u : Sh) (ty fl : Int) (w : World) : Calls Try.prog 39 #[u.val, .agg #[.int .i64 ty, .int .i64 fl]] w fun e w' => e = .returned (withS u ty fl).val ∧ Below w.heap.size w w' := by
  obtain ⟨k, f, th, un⟩ := u
  obtain ⟨p, hp⟩ : ∃ p, (ty == k) = p := ⟨_, rfl⟩
  obtain ⟨q, hq⟩ : ∃ p, (fl == f) = p := ⟨_, rfl⟩
  unfold withS
  dsimp only [Sh.val]
  rw [hp, hq]
  cases th <;> cases un <;> cases p <;> cases q
  all_goals
    go_enter Try.func39, Try.ntmps39
    go_wp2
    all_goals first
      | (refine bodyPost_ret (v := .agg _) (results_cell_row (p := 4) (ty := 87) (by kernel_rfl) _ _ (w.heap.size + 1 + 1) 87 _ (0, 0) _ (by kernel_rfl) (al3 _ _ _ _) Try.underlying87 rfl (by kernel_rfl)) rfl ⟨rfl, bl3 _ _ _ _⟩)
      | (exfalso; simp_all)

theorem oneAll {l : List Value} (h : l.all (fun u => u.oneCell') = true) : ∀ u ∈ l, u.oneCell' = true := List.all_eq_true.1 h
theorem sizeUs : (Try.prog.info? 82).map (·.size) = some 10 := by kernel_rfl
theorem sizeSym6 : (Try.prog.info? 54).map (·.size) = some 6 := by kernel_rfl
set_option maxHeartbeats 8000000 in
set_option maxRecDepth 10000 in
theorem withU_any (u : Us) (s : Sym) (o k : Int) (w : World) : Calls Try.prog 36 #[u.val, s.val, .int .i64 o, .int .i64 k] w fun e w' => e = .returned (withU u s o k).val ∧ Below w.heap.size w w' := by
  obtain ⟨sn, sc, sv, sz, sb, st⟩ := s
  have HD := fun W => defined_any u ⟨sn, o, k, sb, st⟩ W
  obtain ⟨p1, h1⟩ : ∃ p, (sb == 1) = p := ⟨_, rfl⟩
  obtain ⟨p6, h6⟩ : ∃ p, (st == 6) = p := ⟨_, rfl⟩
  obtain ⟨p0, h0⟩ : ∃ p, (st == 0) = p := ⟨_, rfl⟩
  have h6' : (st != 6) = !p6 := by rw [bne, h6]
  have h0' : (st != 0) = !p0 := by rw [bne, h0]
  obtain ⟨q, hq⟩ : ∃ p, sc.toList.isEmpty = p := ⟨_, rfl⟩
  have HR : Hid (withU u ⟨sn, sc, sv, sz, sb, st⟩ o k = (let v := if q then { u with wa := u.wa || p1 } else defU u ⟨sn, o, k, sb, st⟩
    { v with tl := v.tl || p6, ot := v.ot || (!p6 && !p0) })) := ⟨by unfold withU empB; rw [← h1, ← h6, ← h0, ← hq]⟩
  generalize withU u ⟨sn, sc, sv, sz, sb, st⟩ o k = R at *
  dsimp only [Sym.val]
  obtain ⟨B, hB⟩ : ∃ B, w.heap.size = B := ⟨_, rfl⟩
  cases q
  · generalize defU u ⟨sn, o, k, sb, st⟩ = v at *
    simp only [Bool.false_eq_true, if_false] at HR
    obtain ⟨⟨vn, vo, vk, vb, vt⟩, vd, vst, vwa, vtl, vot⟩ := v
    obtain ⟨⟨mn, mo, mk, mb, mt⟩, d, us, wa, tl, ot⟩ := u
    dsimp only [Us.val, En.val] at *
    have HRR := HR.out
    subst HRR
    have HDD : Hid _ := ⟨HD⟩
    clear HD HR
    have K1 := ((Bk.new w #[.string mn, .int .i64 mo, .int .i64 mk, .int .i64 mb, .int .i64 mt, .bool d, .int .i64 us, .bool wa, .bool tl, .bool ot] 82).alloc (.cells #[.string sn, .string sc, .int .i64 sv, .int .i64 sz, .int .i64 sb, .int .i64 st] 54)).alloc (.cells #[.string ⟨#[]⟩, .int .i64 0, .int .i64 0, .int .i64 0, .int .i64 0, .bool false, .int .i64 0, .bool false, .bool false, .bool false] 82)
    have K2 : Bk _ (w.heap.size + 1) 54 #[.string sn, .string sc, .int .i64 sv, .int .i64 sz, .int .i64 sb, .int .i64 st] := (⟨al2 w _ _⟩ : Bk ((w.alloc (.cells #[.string mn, .int .i64 mo, .int .i64 mk, .int .i64 mb, .int .i64 mt, .bool d, .int .i64 us, .bool wa, .bool tl, .bool ot] 82)).alloc (.cells #[.string sn, .string sc, .int .i64 sv, .int .i64 sz, .int .i64 sb, .int .i64 st] 54)) (w.heap.size + 1) 54 #[.string sn, .string sc, .int .i64 sv, .int .i64 sz, .int .i64 sb, .int .i64 st]).alloc (.cells #[.string ⟨#[]⟩, .int .i64 0, .int .i64 0, .int .i64 0, .int .i64 0, .bool false, .int .i64 0, .bool false, .bool false, .bool false] 82)
    have K3 : Bk _ (w.heap.size + 1 + 1) 82 #[.string ⟨#[]⟩, .int .i64 0, .int .i64 0, .int .i64 0, .int .i64 0, .bool false, .int .i64 0, .bool false, .bool false, .bool false] := ⟨al3 w (.cells #[.string mn, .int .i64 mo, .int .i64 mk, .int .i64 mb, .int .i64 mt, .bool d, .int .i64 us, .bool wa, .bool tl, .bool ot] 82) (.cells #[.string sn, .string sc, .int .i64 sv, .int .i64 sz, .int .i64 sb, .int .i64 st] 54) (.cells #[.string ⟨#[]⟩, .int .i64 0, .int .i64 0, .int .i64 0, .int .i64 0, .bool false, .int .i64 0, .bool false, .bool false, .bool false] 82)⟩
    have F1 := bl3 w (.cells #[.string mn, .int .i64 mo, .int .i64 mk, .int .i64 mb, .int .i64 mt, .bool d, .int .i64 us, .bool wa, .bool tl, .bool ot] 82) (.cells #[.string sn, .string sc, .int .i64 sv, .int .i64 sz, .int .i64 sb, .int .i64 st] 54) (.cells #[.string ⟨#[]⟩, .int .i64 0, .int .i64 0, .int .i64 0, .int .i64 0, .bool false, .int .i64 0, .bool false, .bool false, .bool false] 82)
    go_enter Try.func36, Try.ntmps36
    go_upto_region 3 with (fail)
    generalize (((w.alloc (.cells #[.string mn, .int .i64 mo, .int .i64 mk, .int .i64 mb, .int .i64 mt, .bool d, .int .i64 us, .bool wa, .bool tl, .bool ot] 82)).alloc (.cells #[.string sn, .string sc, .int .i64 sv, .int .i64 sz, .int .i64 sb, .int .i64 st] 54)).alloc (.cells #[.string ⟨#[]⟩, .int .i64 0, .int .i64 0, .int .i64 0, .int .i64 0, .bool false, .int .i64 0, .bool false, .bool false, .bool false] 82)) = v0 at *
    rw [hB] at K1 K2 K3 F1
    iterate 1 go_step
    refine wpList_load_of (p := ⟨B, 0, none⟩) (v := .agg #[.string mn, .int .i64 mo, .int .i64 mk, .int .i64 mb, .int .i64 mt, .bool d, .int .i64 us, .bool wa, .bool tl, .bool ot]) rfl (by kernel_rfl) (by kernel_rfl) (K1.loadA 0 _ Try.underlying82 sizeUs rfl rfl) ?_
    simp only [Act.put, List.getElem_toArray, List.getElem_cons_succ, List.getElem_cons_zero, List.setIfInBounds_toArray, List.set_cons_zero, List.set_cons_succ]
    refine wpList_val (v := .pointer (some ⟨B + 1, 0, none⟩)) (by kernel_rfl) (by kernel_rfl) ?_
    simp only [Act.put, List.getElem_toArray, List.getElem_cons_succ, List.getElem_cons_zero, List.setIfInBounds_toArray, List.set_cons_zero, List.set_cons_succ]
    refine wpList_load_of (p := ⟨B + 1, 0, none⟩) (v := .string sn) rfl (by kernel_rfl) (by kernel_rfl) (load_str (K2.cell 0 rfl)) ?_
    simp only [Act.put, List.getElem_toArray, List.getElem_cons_succ, List.getElem_cons_zero, List.setIfInBounds_toArray, List.set_cons_zero, List.set_cons_succ]
    refine wpList_val (v := .int .i64 o) (by kernel_rfl) (by kernel_rfl) ?_
    simp only [Act.put, List.getElem_toArray, List.getElem_cons_succ, List.getElem_cons_zero, List.setIfInBounds_toArray, List.set_cons_zero, List.set_cons_succ]
    refine wpList_val (v := .int .i64 k) (by kernel_rfl) (by kernel_rfl) ?_
    simp only [Act.put, List.getElem_toArray, List.getElem_cons_succ, List.getElem_cons_zero, List.setIfInBounds_toArray, List.set_cons_zero, List.set_cons_succ]
    refine wpList_val (v := .pointer (some ⟨B + 1, 4, none⟩)) (by kernel_rfl) (by kernel_rfl) ?_
    simp only [Act.put, List.getElem_toArray, List.getElem_cons_succ, List.getElem_cons_zero, List.setIfInBounds_toArray, List.set_cons_zero, List.set_cons_succ]
    refine wpList_load_of (p := ⟨B + 1, 4, none⟩) (v := .int .i64 sb) rfl (by kernel_rfl) (by kernel_rfl) (load_i64 (K2.cell 4 rfl)) ?_
    simp only [Act.put, List.getElem_toArray, List.getElem_cons_succ, List.getElem_cons_zero, List.setIfInBounds_toArray, List.set_cons_zero, List.set_cons_succ]
    refine wpList_val (v := .pointer (some ⟨B + 1, 5, none⟩)) (by kernel_rfl) (by kernel_rfl) ?_
    simp only [Act.put, List.getElem_toArray, List.getElem_cons_succ, List.getElem_cons_zero, List.setIfInBounds_toArray, List.set_cons_zero, List.set_cons_succ]
    refine wpList_load_of (p := ⟨B + 1, 5, none⟩) (v := .int .i64 st) rfl (by kernel_rfl) (by kernel_rfl) (load_i64 (K2.cell 5 rfl)) ?_
    simp only [Act.put, List.getElem_toArray, List.getElem_cons_succ, List.getElem_cons_zero, List.setIfInBounds_toArray, List.set_cons_zero, List.set_cons_succ]
    refine wpList_val (v := .agg #[.string sn, .int .i64 o, .int .i64 k, .int .i64 sb, .int .i64 st]) (by kernel_rfl) (by kernel_rfl) ?_
    simp only [Act.put, List.getElem_toArray, List.getElem_cons_succ, List.getElem_cons_zero, List.setIfInBounds_toArray, List.set_cons_zero, List.set_cons_succ]
    refine wpList_call (f := 50) (args := #[.agg #[.string mn, .int .i64 mo, .int .i64 mk, .int .i64 mb, .int .i64 mt, .bool d, .int .i64 us, .bool wa, .bool tl, .bool ot], .agg #[.string sn, .int .i64 o, .int .i64 k, .int .i64 sb, .int .i64 st]]) (v := .agg #[.string vn, .int .i64 vo, .int .i64 vk, .int .i64 vb, .int .i64 vt, .bool vd, .int .i64 vst, .bool vwa, .bool vtl, .bool vot]) (by kernel_rfl) (by kernel_rfl) (HDD.out _) ?_
    rintro v3 g3
    simp only [Act.put, List.getElem_toArray, List.getElem_cons_succ, List.getElem_cons_zero, List.setIfInBounds_toArray, List.set_cons_zero, List.set_cons_succ]
    have K1 := K1.bel g3 K1.lt
    have K2 := K2.bel g3 K2.lt
    have K3 := K3.bel g3 K3.lt
    have F1 := F1.trans (g3.mono (by have := F1.size; omega))
    refine wpList_part (g := B) (off := 0) (val := .agg #[.string vn, .int .i64 vo, .int .i64 vk, .int .i64 vb, .int .i64 vt, .bool vd, .int .i64 vst, .bool vwa, .bool vtl, .bool vot]) (new := #[.string vn, .int .i64 vo, .int .i64 vk, .int .i64 vb, .int .i64 vt, .bool vd, .int .i64 vst, .bool vwa, .bool vtl, .bool vot]) rfl rfl (by kernel_rfl) (by kernel_rfl) K1 (by kernel_rfl) (Nat.le_of_ble_eq_true (by kernel_rfl)) (oneAll (by kernel_rfl)) (by kernel_rfl) ?_
    simp only [Act.put, List.getElem_toArray, List.getElem_cons_succ, List.getElem_cons_zero, List.setIfInBounds_toArray, List.set_cons_zero, List.set_cons_succ]
    have K2 := K2.setO (show B + 1 ≠ B by omega) #[.string vn, .int .i64 vo, .int .i64 vk, .int .i64 vb, .int .i64 vt, .bool vd, .int .i64 vst, .bool vwa, .bool vtl, .bool vot]
    have K3 := K3.setO (show B + 1 + 1 ≠ B by omega) #[.string vn, .int .i64 vo, .int .i64 vk, .int .i64 vb, .int .i64 vt, .bool vd, .int .i64 vst, .bool vwa, .bool vtl, .bool vot]
    have K1 := K1.setR #[.string vn, .int .i64 vo, .int .i64 vk, .int .i64 vb, .int .i64 vt, .bool vd, .int .i64 vst, .bool vwa, .bool vtl, .bool vot]
    have F1 := bel_setR F1 B (by omega) #[.string vn, .int .i64 vo, .int .i64 vk, .int .i64 vb, .int .i64 vt, .bool vd, .int .i64 vst, .bool vwa, .bool vtl, .bool vot]
    generalize v3.setRow B #[.string vn, .int .i64 vo, .int .i64 vk, .int .i64 vb, .int .i64 vt, .bool vd, .int .i64 vst, .bool vwa, .bool vtl, .bool vot] = v1 at *
    clear g3 HDD
    refine wpList_nil ?_
    have c10 := K1.cell 0 rfl; have c11 := K1.cell 1 rfl; have c12 := K1.cell 2 rfl; have c13 := K1.cell 3 rfl; have c14 := K1.cell 4 rfl; have c15 := K1.cell 5 rfl; have c16 := K1.cell 6 rfl; have c17 := K1.cell 7 rfl; have c18 := K1.cell 8 rfl; have c19 := K1.cell 9 rfl
    have f18 := K1.fro 8; have f19 := K1.fro 9
    have c25 := K2.cell 5 rfl
    have HK1 : Hid _ := ⟨K1⟩
    have HK3 : Hid _ := ⟨K3⟩
    have HF : Hid _ := ⟨F1⟩
    clear K1 K2 K3 F1
    have hne : B + 1 + 1 ≠ B := by omega
    cases vtl
    · cases vot
      · cases p6
        · skip
          go_upto_region 6 with (fail)
          have K1 : Bk _ B _ #[.string vn, .int .i64 vo, .int .i64 vk, .int .i64 vb, .int .i64 vt, .bool vd, .int .i64 vst, .bool vwa, .bool false, .bool (!p0)] := (HK1.out.setC 8 (.bool false)).setC 9 (.bool (!p0))
          have K3 := (HK3.out.setCo ⟨B, 8, none⟩ (.bool false) hne).setCo ⟨B, 9, none⟩ (.bool (!p0)) hne
          have F1 := bel_setC (bel_setC HF.out ⟨B, 8, none⟩ (Nat.le_refl _) (.bool false)) ⟨B, 9, none⟩ (Nat.le_refl _) (.bool (!p0))
          generalize ((v1.setCell ⟨B, 8, none⟩ (.bool false)).setCell ⟨B, 9, none⟩ (.bool (!p0))) = v2 at *
          iterate 1 go_step
          refine wpList_load_of (p := ⟨B, 0, none⟩) (v := .agg #[.string vn, .int .i64 vo, .int .i64 vk, .int .i64 vb, .int .i64 vt, .bool vd, .int .i64 vst, .bool vwa, .bool false, .bool (!p0)]) rfl (by kernel_rfl) (by kernel_rfl) (K1.loadA 0 _ Try.underlying82 sizeUs rfl rfl) ?_
          simp only [Act.put, List.getElem_toArray, List.getElem_cons_succ, List.getElem_cons_zero, List.setIfInBounds_toArray, List.set_cons_zero, List.set_cons_succ]
          refine wpList_part (g := B + 1 + 1) (off := 0) (val := .agg #[.string vn, .int .i64 vo, .int .i64 vk, .int .i64 vb, .int .i64 vt, .bool vd, .int .i64 vst, .bool vwa, .bool false, .bool (!p0)]) (new := #[.string vn, .int .i64 vo, .int .i64 vk, .int .i64 vb, .int .i64 vt, .bool vd, .int .i64 vst, .bool vwa, .bool false, .bool (!p0)]) rfl rfl (by kernel_rfl) (by kernel_rfl) K3 (by kernel_rfl) (Nat.le_of_ble_eq_true (by kernel_rfl)) (oneAll (by kernel_rfl)) (by kernel_rfl) ?_
          simp only [Act.put, List.getElem_toArray, List.getElem_cons_succ, List.getElem_cons_zero, List.setIfInBounds_toArray, List.set_cons_zero, List.set_cons_succ]
          have K4 := K3.setR #[.string vn, .int .i64 vo, .int .i64 vk, .int .i64 vb, .int .i64 vt, .bool vd, .int .i64 vst, .bool vwa, .bool false, .bool (!p0)]
          have F2 := bel_setR F1 (B + 1 + 1) (by omega) #[.string vn, .int .i64 vo, .int .i64 vk, .int .i64 vb, .int .i64 vt, .bool vd, .int .i64 vst, .bool vwa, .bool false, .bool (!p0)]
          refine wpList_nil ?_
          go_wp2_with fail
          exact bodyPost_ret (v := .agg _) (results_cell_row (p := 8) (ty := 82) (by kernel_rfl) _ _ (B + 1 + 1) 82 _ (0, 0) _ (by kernel_rfl) K4.hp Try.underlying82 rfl (by kernel_rfl)) rfl ⟨rfl, by rw [hB]; exact F2⟩
        · skip
          go_upto_region 6 with (fail)
          have K1 : Bk _ B _ #[.string vn, .int .i64 vo, .int .i64 vk, .int .i64 vb, .int .i64 vt, .bool vd, .int .i64 vst, .bool vwa, .bool true, .bool false] := (HK1.out.setC 8 (.bool true)).setC 9 (.bool false)
          have K3 := (HK3.out.setCo ⟨B, 8, none⟩ (.bool true) hne).setCo ⟨B, 9, none⟩ (.bool false) hne
          have F1 := bel_setC (bel_setC HF.out ⟨B, 8, none⟩ (Nat.le_refl _) (.bool true)) ⟨B, 9, none⟩ (Nat.le_refl _) (.bool false)
          generalize ((v1.setCell ⟨B, 8, none⟩ (.bool true)).setCell ⟨B, 9, none⟩ (.bool false)) = v2 at *
          iterate 1 go_step
          refine wpList_load_of (p := ⟨B, 0, none⟩) (v := .agg #[.string vn, .int .i64 vo, .int .i64 vk, .int .i64 vb, .int .i64 vt, .bool vd, .int .i64 vst, .bool vwa, .bool true, .bool false]) rfl (by kernel_rfl) (by kernel_rfl) (K1.loadA 0 _ Try.underlying82 sizeUs rfl rfl) ?_
          simp only [Act.put, List.getElem_toArray, List.getElem_cons_succ, List.getElem_cons_zero, List.setIfInBounds_toArray, List.set_cons_zero, List.set_cons_succ]
          refine wpList_part (g := B + 1 + 1) (off := 0) (val := .agg #[.string vn, .int .i64 vo, .int .i64 vk, .int .i64 vb, .int .i64 vt, .bool vd, .int .i64 vst, .bool vwa, .bool true, .bool false]) (new := #[.string vn, .int .i64 vo, .int .i64 vk, .int .i64 vb, .int .i64 vt, .bool vd, .int .i64 vst, .bool vwa, .bool true, .bool false]) rfl rfl (by kernel_rfl) (by kernel_rfl) K3 (by kernel_rfl) (Nat.le_of_ble_eq_true (by kernel_rfl)) (oneAll (by kernel_rfl)) (by kernel_rfl) ?_
          simp only [Act.put, List.getElem_toArray, List.getElem_cons_succ, List.getElem_cons_zero, List.setIfInBounds_toArray, List.set_cons_zero, List.set_cons_succ]
          have K4 := K3.setR #[.string vn, .int .i64 vo, .int .i64 vk, .int .i64 vb, .int .i64 vt, .bool vd, .int .i64 vst, .bool vwa, .bool true, .bool false]
          have F2 := bel_setR F1 (B + 1 + 1) (by omega) #[.string vn, .int .i64 vo, .int .i64 vk, .int .i64 vb, .int .i64 vt, .bool vd, .int .i64 vst, .bool vwa, .bool true, .bool false]
          refine wpList_nil ?_
          go_wp2_with fail
          exact bodyPost_ret (v := .agg _) (results_cell_row (p := 8) (ty := 82) (by kernel_rfl) _ _ (B + 1 + 1) 82 _ (0, 0) _ (by kernel_rfl) K4.hp Try.underlying82 rfl (by kernel_rfl)) rfl ⟨rfl, by rw [hB]; exact F2⟩
      · skip
        go_upto_region 6 with (fail)
        have K1 : Bk _ B _ #[.string vn, .int .i64 vo, .int .i64 vk, .int .i64 vb, .int .i64 vt, .bool vd, .int .i64 vst, .bool vwa, .bool p6, .bool true] := (HK1.out.setC 8 (.bool p6)).setC 9 (.bool true)
        have K3 := (HK3.out.setCo ⟨B, 8, none⟩ (.bool p6) hne).setCo ⟨B, 9, none⟩ (.bool true) hne
        have F1 := bel_setC (bel_setC HF.out ⟨B, 8, none⟩ (Nat.le_refl _) (.bool p6)) ⟨B, 9, none⟩ (Nat.le_refl _) (.bool true)
        generalize ((v1.setCell ⟨B, 8, none⟩ (.bool p6)).setCell ⟨B, 9, none⟩ (.bool true)) = v2 at *
        iterate 1 go_step
        refine wpList_load_of (p := ⟨B, 0, none⟩) (v := .agg #[.string vn, .int .i64 vo, .int .i64 vk, .int .i64 vb, .int .i64 vt, .bool vd, .int .i64 vst, .bool vwa, .bool p6, .bool true]) rfl (by kernel_rfl) (by kernel_rfl) (K1.loadA 0 _ Try.underlying82 sizeUs rfl rfl) ?_
        simp only [Act.put, List.getElem_toArray, List.getElem_cons_succ, List.getElem_cons_zero, List.setIfInBounds_toArray, List.set_cons_zero, List.set_cons_succ]
        refine wpList_part (g := B + 1 + 1) (off := 0) (val := .agg #[.string vn, .int .i64 vo, .int .i64 vk, .int .i64 vb, .int .i64 vt, .bool vd, .int .i64 vst, .bool vwa, .bool p6, .bool true]) (new := #[.string vn, .int .i64 vo, .int .i64 vk, .int .i64 vb, .int .i64 vt, .bool vd, .int .i64 vst, .bool vwa, .bool p6, .bool true]) rfl rfl (by kernel_rfl) (by kernel_rfl) K3 (by kernel_rfl) (Nat.le_of_ble_eq_true (by kernel_rfl)) (oneAll (by kernel_rfl)) (by kernel_rfl) ?_
        simp only [Act.put, List.getElem_toArray, List.getElem_cons_succ, List.getElem_cons_zero, List.setIfInBounds_toArray, List.set_cons_zero, List.set_cons_succ]
        have K4 := K3.setR #[.string vn, .int .i64 vo, .int .i64 vk, .int .i64 vb, .int .i64 vt, .bool vd, .int .i64 vst, .bool vwa, .bool p6, .bool true]
        have F2 := bel_setR F1 (B + 1 + 1) (by omega) #[.string vn, .int .i64 vo, .int .i64 vk, .int .i64 vb, .int .i64 vt, .bool vd, .int .i64 vst, .bool vwa, .bool p6, .bool true]
        refine wpList_nil ?_
        go_wp2_with fail
        exact bodyPost_ret (v := .agg _) (results_cell_row (p := 8) (ty := 82) (by kernel_rfl) _ _ (B + 1 + 1) 82 _ (0, 0) _ (by kernel_rfl) K4.hp Try.underlying82 rfl (by kernel_rfl)) rfl ⟨rfl, by rw [hB]; exact F2⟩
    · cases vot
      · cases p6
        · skip
          go_upto_region 6 with (fail)
          have K1 : Bk _ B _ #[.string vn, .int .i64 vo, .int .i64 vk, .int .i64 vb, .int .i64 vt, .bool vd, .int .i64 vst, .bool vwa, .bool true, .bool (!p0)] := (HK1.out.setC 8 (.bool true)).setC 9 (.bool (!p0))
          have K3 := (HK3.out.setCo ⟨B, 8, none⟩ (.bool true) hne).setCo ⟨B, 9, none⟩ (.bool (!p0)) hne
          have F1 := bel_setC (bel_setC HF.out ⟨B, 8, none⟩ (Nat.le_refl _) (.bool true)) ⟨B, 9, none⟩ (Nat.le_refl _) (.bool (!p0))
          generalize ((v1.setCell ⟨B, 8, none⟩ (.bool true)).setCell ⟨B, 9, none⟩ (.bool (!p0))) = v2 at *
          iterate 1 go_step
          refine wpList_load_of (p := ⟨B, 0, none⟩) (v := .agg #[.string vn, .int .i64 vo, .int .i64 vk, .int .i64 vb, .int .i64 vt, .bool vd, .int .i64 vst, .bool vwa, .bool true, .bool (!p0)]) rfl (by kernel_rfl) (by kernel_rfl) (K1.loadA 0 _ Try.underlying82 sizeUs rfl rfl) ?_
          simp only [Act.put, List.getElem_toArray, List.getElem_cons_succ, List.getElem_cons_zero, List.setIfInBounds_toArray, List.set_cons_zero, List.set_cons_succ]
          refine wpList_part (g := B + 1 + 1) (off := 0) (val := .agg #[.string vn, .int .i64 vo, .int .i64 vk, .int .i64 vb, .int .i64 vt, .bool vd, .int .i64 vst, .bool vwa, .bool true, .bool (!p0)]) (new := #[.string vn, .int .i64 vo, .int .i64 vk, .int .i64 vb, .int .i64 vt, .bool vd, .int .i64 vst, .bool vwa, .bool true, .bool (!p0)]) rfl rfl (by kernel_rfl) (by kernel_rfl) K3 (by kernel_rfl) (Nat.le_of_ble_eq_true (by kernel_rfl)) (oneAll (by kernel_rfl)) (by kernel_rfl) ?_
          simp only [Act.put, List.getElem_toArray, List.getElem_cons_succ, List.getElem_cons_zero, List.setIfInBounds_toArray, List.set_cons_zero, List.set_cons_succ]
          have K4 := K3.setR #[.string vn, .int .i64 vo, .int .i64 vk, .int .i64 vb, .int .i64 vt, .bool vd, .int .i64 vst, .bool vwa, .bool true, .bool (!p0)]
          have F2 := bel_setR F1 (B + 1 + 1) (by omega) #[.string vn, .int .i64 vo, .int .i64 vk, .int .i64 vb, .int .i64 vt, .bool vd, .int .i64 vst, .bool vwa, .bool true, .bool (!p0)]
          refine wpList_nil ?_
          go_wp2_with fail
          exact bodyPost_ret (v := .agg _) (results_cell_row (p := 8) (ty := 82) (by kernel_rfl) _ _ (B + 1 + 1) 82 _ (0, 0) _ (by kernel_rfl) K4.hp Try.underlying82 rfl (by kernel_rfl)) rfl ⟨rfl, by rw [hB]; exact F2⟩
        · skip
          go_upto_region 6 with (fail)
          have K1 : Bk _ B _ #[.string vn, .int .i64 vo, .int .i64 vk, .int .i64 vb, .int .i64 vt, .bool vd, .int .i64 vst, .bool vwa, .bool true, .bool false] := (HK1.out.setC 8 (.bool true)).setC 9 (.bool false)
          have K3 := (HK3.out.setCo ⟨B, 8, none⟩ (.bool true) hne).setCo ⟨B, 9, none⟩ (.bool false) hne
          have F1 := bel_setC (bel_setC HF.out ⟨B, 8, none⟩ (Nat.le_refl _) (.bool true)) ⟨B, 9, none⟩ (Nat.le_refl _) (.bool false)
          generalize ((v1.setCell ⟨B, 8, none⟩ (.bool true)).setCell ⟨B, 9, none⟩ (.bool false)) = v2 at *
          iterate 1 go_step
          refine wpList_load_of (p := ⟨B, 0, none⟩) (v := .agg #[.string vn, .int .i64 vo, .int .i64 vk, .int .i64 vb, .int .i64 vt, .bool vd, .int .i64 vst, .bool vwa, .bool true, .bool false]) rfl (by kernel_rfl) (by kernel_rfl) (K1.loadA 0 _ Try.underlying82 sizeUs rfl rfl) ?_
          simp only [Act.put, List.getElem_toArray, List.getElem_cons_succ, List.getElem_cons_zero, List.setIfInBounds_toArray, List.set_cons_zero, List.set_cons_succ]
          refine wpList_part (g := B + 1 + 1) (off := 0) (val := .agg #[.string vn, .int .i64 vo, .int .i64 vk, .int .i64 vb, .int .i64 vt, .bool vd, .int .i64 vst, .bool vwa, .bool true, .bool false]) (new := #[.string vn, .int .i64 vo, .int .i64 vk, .int .i64 vb, .int .i64 vt, .bool vd, .int .i64 vst, .bool vwa, .bool true, .bool false]) rfl rfl (by kernel_rfl) (by kernel_rfl) K3 (by kernel_rfl) (Nat.le_of_ble_eq_true (by kernel_rfl)) (oneAll (by kernel_rfl)) (by kernel_rfl) ?_
          simp only [Act.put, List.getElem_toArray, List.getElem_cons_succ, List.getElem_cons_zero, List.setIfInBounds_toArray, List.set_cons_zero, List.set_cons_succ]
          have K4 := K3.setR #[.string vn, .int .i64 vo, .int .i64 vk, .int .i64 vb, .int .i64 vt, .bool vd, .int .i64 vst, .bool vwa, .bool true, .bool false]
          have F2 := bel_setR F1 (B + 1 + 1) (by omega) #[.string vn, .int .i64 vo, .int .i64 vk, .int .i64 vb, .int .i64 vt, .bool vd, .int .i64 vst, .bool vwa, .bool true, .bool false]
          refine wpList_nil ?_
          go_wp2_with fail
          exact bodyPost_ret (v := .agg _) (results_cell_row (p := 8) (ty := 82) (by kernel_rfl) _ _ (B + 1 + 1) 82 _ (0, 0) _ (by kernel_rfl) K4.hp Try.underlying82 rfl (by kernel_rfl)) rfl ⟨rfl, by rw [hB]; exact F2⟩
      · skip
        go_upto_region 6 with (fail)
        have K1 : Bk _ B _ #[.string vn, .int .i64 vo, .int .i64 vk, .int .i64 vb, .int .i64 vt, .bool vd, .int .i64 vst, .bool vwa, .bool true, .bool true] := (HK1.out.setC 8 (.bool true)).setC 9 (.bool true)
        have K3 := (HK3.out.setCo ⟨B, 8, none⟩ (.bool true) hne).setCo ⟨B, 9, none⟩ (.bool true) hne
        have F1 := bel_setC (bel_setC HF.out ⟨B, 8, none⟩ (Nat.le_refl _) (.bool true)) ⟨B, 9, none⟩ (Nat.le_refl _) (.bool true)
        generalize ((v1.setCell ⟨B, 8, none⟩ (.bool true)).setCell ⟨B, 9, none⟩ (.bool true)) = v2 at *
        iterate 1 go_step
        refine wpList_load_of (p := ⟨B, 0, none⟩) (v := .agg #[.string vn, .int .i64 vo, .int .i64 vk, .int .i64 vb, .int .i64 vt, .bool vd, .int .i64 vst, .bool vwa, .bool true, .bool true]) rfl (by kernel_rfl) (by kernel_rfl) (K1.loadA 0 _ Try.underlying82 sizeUs rfl rfl) ?_
        simp only [Act.put, List.getElem_toArray, List.getElem_cons_succ, List.getElem_cons_zero, List.setIfInBounds_toArray, List.set_cons_zero, List.set_cons_succ]
        refine wpList_part (g := B + 1 + 1) (off := 0) (val := .agg #[.string vn, .int .i64 vo, .int .i64 vk, .int .i64 vb, .int .i64 vt, .bool vd, .int .i64 vst, .bool vwa, .bool true, .bool true]) (new := #[.string vn, .int .i64 vo, .int .i64 vk, .int .i64 vb, .int .i64 vt, .bool vd, .int .i64 vst, .bool vwa, .bool true, .bool true]) rfl rfl (by kernel_rfl) (by kernel_rfl) K3 (by kernel_rfl) (Nat.le_of_ble_eq_true (by kernel_rfl)) (oneAll (by kernel_rfl)) (by kernel_rfl) ?_
        simp only [Act.put, List.getElem_toArray, List.getElem_cons_succ, List.getElem_cons_zero, List.setIfInBounds_toArray, List.set_cons_zero, List.set_cons_succ]
        have K4 := K3.setR #[.string vn, .int .i64 vo, .int .i64 vk, .int .i64 vb, .int .i64 vt, .bool vd, .int .i64 vst, .bool vwa, .bool true, .bool true]
        have F2 := bel_setR F1 (B + 1 + 1) (by omega) #[.string vn, .int .i64 vo, .int .i64 vk, .int .i64 vb, .int .i64 vt, .bool vd, .int .i64 vst, .bool vwa, .bool true, .bool true]
        refine wpList_nil ?_
        go_wp2_with fail
        exact bodyPost_ret (v := .agg _) (results_cell_row (p := 8) (ty := 82) (by kernel_rfl) _ _ (B + 1 + 1) 82 _ (0, 0) _ (by kernel_rfl) K4.hp Try.underlying82 rfl (by kernel_rfl)) rfl ⟨rfl, by rw [hB]; exact F2⟩
  · clear HD
    simp only [if_true] at HR
    obtain ⟨⟨vn, vo, vk, vb, vt⟩, vd, vst, vwa, vtl, vot⟩ := u
    dsimp only [Us.val] at *
    have HRR := HR.out
    subst HRR
    clear HR
    cases vwa
    · skip
      have K1 := ((Bk.new w #[.string vn, .int .i64 vo, .int .i64 vk, .int .i64 vb, .int .i64 vt, .bool vd, .int .i64 vst, .bool p1, .bool vtl, .bool vot] 82).alloc (.cells #[.string sn, .string sc, .int .i64 sv, .int .i64 sz, .int .i64 sb, .int .i64 st] 54)).alloc (.cells #[.string ⟨#[]⟩, .int .i64 0, .int .i64 0, .int .i64 0, .int .i64 0, .bool false, .int .i64 0, .bool false, .bool false, .bool false] 82)
      have K2 : Bk _ (w.heap.size + 1) 54 #[.string sn, .string sc, .int .i64 sv, .int .i64 sz, .int .i64 sb, .int .i64 st] := (⟨al2 w _ _⟩ : Bk ((w.alloc (.cells #[.string vn, .int .i64 vo, .int .i64 vk, .int .i64 vb, .int .i64 vt, .bool vd, .int .i64 vst, .bool p1, .bool vtl, .bool vot] 82)).alloc (.cells #[.string sn, .string sc, .int .i64 sv, .int .i64 sz, .int .i64 sb, .int .i64 st] 54)) (w.heap.size + 1) 54 #[.string sn, .string sc, .int .i64 sv, .int .i64 sz, .int .i64 sb, .int .i64 st]).alloc (.cells #[.string ⟨#[]⟩, .int .i64 0, .int .i64 0, .int .i64 0, .int .i64 0, .bool false, .int .i64 0, .bool false, .bool false, .bool false] 82)
      have K3 : Bk _ (w.heap.size + 1 + 1) 82 #[.string ⟨#[]⟩, .int .i64 0, .int .i64 0, .int .i64 0, .int .i64 0, .bool false, .int .i64 0, .bool false, .bool false, .bool false] := ⟨al3 w (.cells #[.string vn, .int .i64 vo, .int .i64 vk, .int .i64 vb, .int .i64 vt, .bool vd, .int .i64 vst, .bool p1, .bool vtl, .bool vot] 82) (.cells #[.string sn, .string sc, .int .i64 sv, .int .i64 sz, .int .i64 sb, .int .i64 st] 54) (.cells #[.string ⟨#[]⟩, .int .i64 0, .int .i64 0, .int .i64 0, .int .i64 0, .bool false, .int .i64 0, .bool false, .bool false, .bool false] 82)⟩
      have F1 := bl3 w (.cells #[.string vn, .int .i64 vo, .int .i64 vk, .int .i64 vb, .int .i64 vt, .bool vd, .int .i64 vst, .bool p1, .bool vtl, .bool vot] 82) (.cells #[.string sn, .string sc, .int .i64 sv, .int .i64 sz, .int .i64 sb, .int .i64 st] 54) (.cells #[.string ⟨#[]⟩, .int .i64 0, .int .i64 0, .int .i64 0, .int .i64 0, .bool false, .int .i64 0, .bool false, .bool false, .bool false] 82)
      go_enter Try.func36, Try.ntmps36
      go_upto_region 4 with (fail)
      generalize (((w.alloc (.cells #[.string vn, .int .i64 vo, .int .i64 vk, .int .i64 vb, .int .i64 vt, .bool vd, .int .i64 vst, .bool p1, .bool vtl, .bool vot] 82)).alloc (.cells #[.string sn, .string sc, .int .i64 sv, .int .i64 sz, .int .i64 sb, .int .i64 st] 54)).alloc (.cells #[.string ⟨#[]⟩, .int .i64 0, .int .i64 0, .int .i64 0, .int .i64 0, .bool false, .int .i64 0, .bool false, .bool false, .bool false] 82)) = v1 at *
      rw [hB] at K1 K2 K3 F1
      have c10 := K1.cell 0 rfl; have c11 := K1.cell 1 rfl; have c12 := K1.cell 2 rfl; have c13 := K1.cell 3 rfl; have c14 := K1.cell 4 rfl; have c15 := K1.cell 5 rfl; have c16 := K1.cell 6 rfl; have c17 := K1.cell 7 rfl; have c18 := K1.cell 8 rfl; have c19 := K1.cell 9 rfl
      have f18 := K1.fro 8; have f19 := K1.fro 9
      have c25 := K2.cell 5 rfl
      have HK1 : Hid _ := ⟨K1⟩
      have HK3 : Hid _ := ⟨K3⟩
      have HF : Hid _ := ⟨F1⟩
      clear K1 K2 K3 F1
      have hne : B + 1 + 1 ≠ B := by omega
      cases vtl
      · cases vot
        · cases p6
          · skip
            go_upto_region 6 with (fail)
            have K1 : Bk _ B _ #[.string vn, .int .i64 vo, .int .i64 vk, .int .i64 vb, .int .i64 vt, .bool vd, .int .i64 vst, .bool p1, .bool false, .bool (!p0)] := (HK1.out.setC 8 (.bool false)).setC 9 (.bool (!p0))
            have K3 := (HK3.out.setCo ⟨B, 8, none⟩ (.bool false) hne).setCo ⟨B, 9, none⟩ (.bool (!p0)) hne
            have F1 := bel_setC (bel_setC HF.out ⟨B, 8, none⟩ (Nat.le_refl _) (.bool false)) ⟨B, 9, none⟩ (Nat.le_refl _) (.bool (!p0))
            generalize ((v1.setCell ⟨B, 8, none⟩ (.bool false)).setCell ⟨B, 9, none⟩ (.bool (!p0))) = v2 at *
            iterate 1 go_step
            refine wpList_load_of (p := ⟨B, 0, none⟩) (v := .agg #[.string vn, .int .i64 vo, .int .i64 vk, .int .i64 vb, .int .i64 vt, .bool vd, .int .i64 vst, .bool p1, .bool false, .bool (!p0)]) rfl (by kernel_rfl) (by kernel_rfl) (K1.loadA 0 _ Try.underlying82 sizeUs rfl rfl) ?_
            simp only [Act.put, List.getElem_toArray, List.getElem_cons_succ, List.getElem_cons_zero, List.setIfInBounds_toArray, List.set_cons_zero, List.set_cons_succ]
            refine wpList_part (g := B + 1 + 1) (off := 0) (val := .agg #[.string vn, .int .i64 vo, .int .i64 vk, .int .i64 vb, .int .i64 vt, .bool vd, .int .i64 vst, .bool p1, .bool false, .bool (!p0)]) (new := #[.string vn, .int .i64 vo, .int .i64 vk, .int .i64 vb, .int .i64 vt, .bool vd, .int .i64 vst, .bool p1, .bool false, .bool (!p0)]) rfl rfl (by kernel_rfl) (by kernel_rfl) K3 (by kernel_rfl) (Nat.le_of_ble_eq_true (by kernel_rfl)) (oneAll (by kernel_rfl)) (by kernel_rfl) ?_
            simp only [Act.put, List.getElem_toArray, List.getElem_cons_succ, List.getElem_cons_zero, List.setIfInBounds_toArray, List.set_cons_zero, List.set_cons_succ]
            have K4 := K3.setR #[.string vn, .int .i64 vo, .int .i64 vk, .int .i64 vb, .int .i64 vt, .bool vd, .int .i64 vst, .bool p1, .bool false, .bool (!p0)]
            have F2 := bel_setR F1 (B + 1 + 1) (by omega) #[.string vn, .int .i64 vo, .int .i64 vk, .int .i64 vb, .int .i64 vt, .bool vd, .int .i64 vst, .bool p1, .bool false, .bool (!p0)]
            refine wpList_nil ?_
            go_wp2_with fail
            exact bodyPost_ret (v := .agg _) (results_cell_row (p := 8) (ty := 82) (by kernel_rfl) _ _ (B + 1 + 1) 82 _ (0, 0) _ (by kernel_rfl) K4.hp Try.underlying82 rfl (by kernel_rfl)) rfl ⟨rfl, by rw [hB]; exact F2⟩
          · skip
            go_upto_region 6 with (fail)
            have K1 : Bk _ B _ #[.string vn, .int .i64 vo, .int .i64 vk, .int .i64 vb, .int .i64 vt, .bool vd, .int .i64 vst, .bool p1, .bool true, .bool false] := (HK1.out.setC 8 (.bool true)).setC 9 (.bool false)
            have K3 := (HK3.out.setCo ⟨B, 8, none⟩ (.bool true) hne).setCo ⟨B, 9, none⟩ (.bool false) hne
            have F1 := bel_setC (bel_setC HF.out ⟨B, 8, none⟩ (Nat.le_refl _) (.bool true)) ⟨B, 9, none⟩ (Nat.le_refl _) (.bool false)
            generalize ((v1.setCell ⟨B, 8, none⟩ (.bool true)).setCell ⟨B, 9, none⟩ (.bool false)) = v2 at *
            iterate 1 go_step
            refine wpList_load_of (p := ⟨B, 0, none⟩) (v := .agg #[.string vn, .int .i64 vo, .int .i64 vk, .int .i64 vb, .int .i64 vt, .bool vd, .int .i64 vst, .bool p1, .bool true, .bool false]) rfl (by kernel_rfl) (by kernel_rfl) (K1.loadA 0 _ Try.underlying82 sizeUs rfl rfl) ?_
            simp only [Act.put, List.getElem_toArray, List.getElem_cons_succ, List.getElem_cons_zero, List.setIfInBounds_toArray, List.set_cons_zero, List.set_cons_succ]
            refine wpList_part (g := B + 1 + 1) (off := 0) (val := .agg #[.string vn, .int .i64 vo, .int .i64 vk, .int .i64 vb, .int .i64 vt, .bool vd, .int .i64 vst, .bool p1, .bool true, .bool false]) (new := #[.string vn, .int .i64 vo, .int .i64 vk, .int .i64 vb, .int .i64 vt, .bool vd, .int .i64 vst, .bool p1, .bool true, .bool false]) rfl rfl (by kernel_rfl) (by kernel_rfl) K3 (by kernel_rfl) (Nat.le_of_ble_eq_true (by kernel_rfl)) (oneAll (by kernel_rfl)) (by kernel_rfl) ?_
            simp only [Act.put, List.getElem_toArray, List.getElem_cons_succ, List.getElem_cons_zero, List.setIfInBounds_toArray, List.set_cons_zero, List.set_cons_succ]
            have K4 := K3.setR #[.string vn, .int .i64 vo, .int .i64 vk, .int .i64 vb, .int .i64 vt, .bool vd, .int .i64 vst, .bool p1, .bool true, .bool false]
            have F2 := bel_setR F1 (B + 1 + 1) (by omega) #[.string vn, .int .i64 vo, .int .i64 vk, .int .i64 vb, .int .i64 vt, .bool vd, .int .i64 vst, .bool p1, .bool true, .bool false]
            refine wpList_nil ?_
            go_wp2_with fail
            exact bodyPost_ret (v := .agg _) (results_cell_row (p := 8) (ty := 82) (by kernel_rfl) _ _ (B + 1 + 1) 82 _ (0, 0) _ (by kernel_rfl) K4.hp Try.underlying82 rfl (by kernel_rfl)) rfl ⟨rfl, by rw [hB]; exact F2⟩
        · skip
          go_upto_region 6 with (fail)
          have K1 : Bk _ B _ #[.string vn, .int .i64 vo, .int .i64 vk, .int .i64 vb, .int .i64 vt, .bool vd, .int .i64 vst, .bool p1, .bool p6, .bool true] := (HK1.out.setC 8 (.bool p6)).setC 9 (.bool true)
          have K3 := (HK3.out.setCo ⟨B, 8, none⟩ (.bool p6) hne).setCo ⟨B, 9, none⟩ (.bool true) hne
          have F1 := bel_setC (bel_setC HF.out ⟨B, 8, none⟩ (Nat.le_refl _) (.bool p6)) ⟨B, 9, none⟩ (Nat.le_refl _) (.bool true)
          generalize ((v1.setCell ⟨B, 8, none⟩ (.bool p6)).setCell ⟨B, 9, none⟩ (.bool true)) = v2 at *
          iterate 1 go_step
          refine wpList_load_of (p := ⟨B, 0, none⟩) (v := .agg #[.string vn, .int .i64 vo, .int .i64 vk, .int .i64 vb, .int .i64 vt, .bool vd, .int .i64 vst, .bool p1, .bool p6, .bool true]) rfl (by kernel_rfl) (by kernel_rfl) (K1.loadA 0 _ Try.underlying82 sizeUs rfl rfl) ?_
          simp only [Act.put, List.getElem_toArray, List.getElem_cons_succ, List.getElem_cons_zero, List.setIfInBounds_toArray, List.set_cons_zero, List.set_cons_succ]
          refine wpList_part (g := B + 1 + 1) (off := 0) (val := .agg #[.string vn, .int .i64 vo, .int .i64 vk, .int .i64 vb, .int .i64 vt, .bool vd, .int .i64 vst, .bool p1, .bool p6, .bool true]) (new := #[.string vn, .int .i64 vo, .int .i64 vk, .int .i64 vb, .int .i64 vt, .bool vd, .int .i64 vst, .bool p1, .bool p6, .bool true]) rfl rfl (by kernel_rfl) (by kernel_rfl) K3 (by kernel_rfl) (Nat.le_of_ble_eq_true (by kernel_rfl)) (oneAll (by kernel_rfl)) (by kernel_rfl) ?_
          simp only [Act.put, List.getElem_toArray, List.getElem_cons_succ, List.getElem_cons_zero, List.setIfInBounds_toArray, List.set_cons_zero, List.set_cons_succ]
          have K4 := K3.setR #[.string vn, .int .i64 vo, .int .i64 vk, .int .i64 vb, .int .i64 vt, .bool vd, .int .i64 vst, .bool p1, .bool p6, .bool true]
          have F2 := bel_setR F1 (B + 1 + 1) (by omega) #[.string vn, .int .i64 vo, .int .i64 vk, .int .i64 vb, .int .i64 vt, .bool vd, .int .i64 vst, .bool p1, .bool p6, .bool true]
          refine wpList_nil ?_
          go_wp2_with fail
          exact bodyPost_ret (v := .agg _) (results_cell_row (p := 8) (ty := 82) (by kernel_rfl) _ _ (B + 1 + 1) 82 _ (0, 0) _ (by kernel_rfl) K4.hp Try.underlying82 rfl (by kernel_rfl)) rfl ⟨rfl, by rw [hB]; exact F2⟩
      · cases vot
        · cases p6
          · skip
            go_upto_region 6 with (fail)
            have K1 : Bk _ B _ #[.string vn, .int .i64 vo, .int .i64 vk, .int .i64 vb, .int .i64 vt, .bool vd, .int .i64 vst, .bool p1, .bool true, .bool (!p0)] := (HK1.out.setC 8 (.bool true)).setC 9 (.bool (!p0))
            have K3 := (HK3.out.setCo ⟨B, 8, none⟩ (.bool true) hne).setCo ⟨B, 9, none⟩ (.bool (!p0)) hne
            have F1 := bel_setC (bel_setC HF.out ⟨B, 8, none⟩ (Nat.le_refl _) (.bool true)) ⟨B, 9, none⟩ (Nat.le_refl _) (.bool (!p0))
            generalize ((v1.setCell ⟨B, 8, none⟩ (.bool true)).setCell ⟨B, 9, none⟩ (.bool (!p0))) = v2 at *
            iterate 1 go_step
            refine wpList_load_of (p := ⟨B, 0, none⟩) (v := .agg #[.string vn, .int .i64 vo, .int .i64 vk, .int .i64 vb, .int .i64 vt, .bool vd, .int .i64 vst, .bool p1, .bool true, .bool (!p0)]) rfl (by kernel_rfl) (by kernel_rfl) (K1.loadA 0 _ Try.underlying82 sizeUs rfl rfl) ?_
            simp only [Act.put, List.getElem_toArray, List.getElem_cons_succ, List.getElem_cons_zero, List.setIfInBounds_toArray, List.set_cons_zero, List.set_cons_succ]
            refine wpList_part (g := B + 1 + 1) (off := 0) (val := .agg #[.string vn, .int .i64 vo, .int .i64 vk, .int .i64 vb, .int .i64 vt, .bool vd, .int .i64 vst, .bool p1, .bool true, .bool (!p0)]) (new := #[.string vn, .int .i64 vo, .int .i64 vk, .int .i64 vb, .int .i64 vt, .bool vd, .int .i64 vst, .bool p1, .bool true, .bool (!p0)]) rfl rfl (by kernel_rfl) (by kernel_rfl) K3 (by kernel_rfl) (Nat.le_of_ble_eq_true (by kernel_rfl)) (oneAll (by kernel_rfl)) (by kernel_rfl) ?_
            simp only [Act.put, List.getElem_toArray, List.getElem_cons_succ, List.getElem_cons_zero, List.setIfInBounds_toArray, List.set_cons_zero, List.set_cons_succ]
            have K4 := K3.setR #[.string vn, .int .i64 vo, .int .i64 vk, .int .i64 vb, .int .i64 vt, .bool vd, .int .i64 vst, .bool p1, .bool true, .bool (!p0)]
            have F2 := bel_setR F1 (B + 1 + 1) (by omega) #[.string vn, .int .i64 vo, .int .i64 vk, .int .i64 vb, .int .i64 vt, .bool vd, .int .i64 vst, .bool p1, .bool true, .bool (!p0)]
            refine wpList_nil ?_
            go_wp2_with fail
            exact bodyPost_ret (v := .agg _) (results_cell_row (p := 8) (ty := 82) (by kernel_rfl) _ _ (B + 1 + 1) 82 _ (0, 0) _ (by kernel_rfl) K4.hp Try.underlying82 rfl (by kernel_rfl)) rfl ⟨rfl, by rw [hB]; exact F2⟩
          · skip
            go_upto_region 6 with (fail)
            have K1 : Bk _ B _ #[.string vn, .int .i64 vo, .int .i64 vk, .int .i64 vb, .int .i64 vt, .bool vd, .int .i64 vst, .bool p1, .bool true, .bool false] := (HK1.out.setC 8 (.bool true)).setC 9 (.bool false)
            have K3 := (HK3.out.setCo ⟨B, 8, none⟩ (.bool true) hne).setCo ⟨B, 9, none⟩ (.bool false) hne
            have F1 := bel_setC (bel_setC HF.out ⟨B, 8, none⟩ (Nat.le_refl _) (.bool true)) ⟨B, 9, none⟩ (Nat.le_refl _) (.bool false)
            generalize ((v1.setCell ⟨B, 8, none⟩ (.bool true)).setCell ⟨B, 9, none⟩ (.bool false)) = v2 at *
            iterate 1 go_step
            refine wpList_load_of (p := ⟨B, 0, none⟩) (v := .agg #[.string vn, .int .i64 vo, .int .i64 vk, .int .i64 vb, .int .i64 vt, .bool vd, .int .i64 vst, .bool p1, .bool true, .bool false]) rfl (by kernel_rfl) (by kernel_rfl) (K1.loadA 0 _ Try.underlying82 sizeUs rfl rfl) ?_
            simp only [Act.put, List.getElem_toArray, List.getElem_cons_succ, List.getElem_cons_zero, List.setIfInBounds_toArray, List.set_cons_zero, List.set_cons_succ]
            refine wpList_part (g := B + 1 + 1) (off := 0) (val := .agg #[.string vn, .int .i64 vo, .int .i64 vk, .int .i64 vb, .int .i64 vt, .bool vd, .int .i64 vst, .bool p1, .bool true, .bool false]) (new := #[.string vn, .int .i64 vo, .int .i64 vk, .int .i64 vb, .int .i64 vt, .bool vd, .int .i64 vst, .bool p1, .bool true, .bool false]) rfl rfl (by kernel_rfl) (by kernel_rfl) K3 (by kernel_rfl) (Nat.le_of_ble_eq_true (by kernel_rfl)) (oneAll (by kernel_rfl)) (by kernel_rfl) ?_
            simp only [Act.put, List.getElem_toArray, List.getElem_cons_succ, List.getElem_cons_zero, List.setIfInBounds_toArray, List.set_cons_zero, List.set_cons_succ]
            have K4 := K3.setR #[.string vn, .int .i64 vo, .int .i64 vk, .int .i64 vb, .int .i64 vt, .bool vd, .int .i64 vst, .bool p1, .bool true, .bool false]
            have F2 := bel_setR F1 (B + 1 + 1) (by omega) #[.string vn, .int .i64 vo, .int .i64 vk, .int .i64 vb, .int .i64 vt, .bool vd, .int .i64 vst, .bool p1, .bool true, .bool false]
            refine wpList_nil ?_
            go_wp2_with fail
            exact bodyPost_ret (v := .agg _) (results_cell_row (p := 8) (ty := 82) (by kernel_rfl) _ _ (B + 1 + 1) 82 _ (0, 0) _ (by kernel_rfl) K4.hp Try.underlying82 rfl (by kernel_rfl)) rfl ⟨rfl, by rw [hB]; exact F2⟩
        · skip
          go_upto_region 6 with (fail)
          have K1 : Bk _ B _ #[.string vn, .int .i64 vo, .int .i64 vk, .int .i64 vb, .int .i64 vt, .bool vd, .int .i64 vst, .bool p1, .bool true, .bool true] := (HK1.out.setC 8 (.bool true)).setC 9 (.bool true)
          have K3 := (HK3.out.setCo ⟨B, 8, none⟩ (.bool true) hne).setCo ⟨B, 9, none⟩ (.bool true) hne
          have F1 := bel_setC (bel_setC HF.out ⟨B, 8, none⟩ (Nat.le_refl _) (.bool true)) ⟨B, 9, none⟩ (Nat.le_refl _) (.bool true)
          generalize ((v1.setCell ⟨B, 8, none⟩ (.bool true)).setCell ⟨B, 9, none⟩ (.bool true)) = v2 at *
          iterate 1 go_step
          refine wpList_load_of (p := ⟨B, 0, none⟩) (v := .agg #[.string vn, .int .i64 vo, .int .i64 vk, .int .i64 vb, .int .i64 vt, .bool vd, .int .i64 vst, .bool p1, .bool true, .bool true]) rfl (by kernel_rfl) (by kernel_rfl) (K1.loadA 0 _ Try.underlying82 sizeUs rfl rfl) ?_
          simp only [Act.put, List.getElem_toArray, List.getElem_cons_succ, List.getElem_cons_zero, List.setIfInBounds_toArray, List.set_cons_zero, List.set_cons_succ]
          refine wpList_part (g := B + 1 + 1) (off := 0) (val := .agg #[.string vn, .int .i64 vo, .int .i64 vk, .int .i64 vb, .int .i64 vt, .bool vd, .int .i64 vst, .bool p1, .bool true, .bool true]) (new := #[.string vn, .int .i64 vo, .int .i64 vk, .int .i64 vb, .int .i64 vt, .bool vd, .int .i64 vst, .bool p1, .bool true, .bool true]) rfl rfl (by kernel_rfl) (by kernel_rfl) K3 (by kernel_rfl) (Nat.le_of_ble_eq_true (by kernel_rfl)) (oneAll (by kernel_rfl)) (by kernel_rfl) ?_
          simp only [Act.put, List.getElem_toArray, List.getElem_cons_succ, List.getElem_cons_zero, List.setIfInBounds_toArray, List.set_cons_zero, List.set_cons_succ]
          have K4 := K3.setR #[.string vn, .int .i64 vo, .int .i64 vk, .int .i64 vb, .int .i64 vt, .bool vd, .int .i64 vst, .bool p1, .bool true, .bool true]
          have F2 := bel_setR F1 (B + 1 + 1) (by omega) #[.string vn, .int .i64 vo, .int .i64 vk, .int .i64 vb, .int .i64 vt, .bool vd, .int .i64 vst, .bool p1, .bool true, .bool true]
          refine wpList_nil ?_
          go_wp2_with fail
          exact bodyPost_ret (v := .agg _) (results_cell_row (p := 8) (ty := 82) (by kernel_rfl) _ _ (B + 1 + 1) 82 _ (0, 0) _ (by kernel_rfl) K4.hp Try.underlying82 rfl (by kernel_rfl)) rfl ⟨rfl, by rw [hB]; exact F2⟩
    · skip
      have K1 := ((Bk.new w #[.string vn, .int .i64 vo, .int .i64 vk, .int .i64 vb, .int .i64 vt, .bool vd, .int .i64 vst, .bool true, .bool vtl, .bool vot] 82).alloc (.cells #[.string sn, .string sc, .int .i64 sv, .int .i64 sz, .int .i64 sb, .int .i64 st] 54)).alloc (.cells #[.string ⟨#[]⟩, .int .i64 0, .int .i64 0, .int .i64 0, .int .i64 0, .bool false, .int .i64 0, .bool false, .bool false, .bool false] 82)
      have K2 : Bk _ (w.heap.size + 1) 54 #[.string sn, .string sc, .int .i64 sv, .int .i64 sz, .int .i64 sb, .int .i64 st] := (⟨al2 w _ _⟩ : Bk ((w.alloc (.cells #[.string vn, .int .i64 vo, .int .i64 vk, .int .i64 vb, .int .i64 vt, .bool vd, .int .i64 vst, .bool true, .bool vtl, .bool vot] 82)).alloc (.cells #[.string sn, .string sc, .int .i64 sv, .int .i64 sz, .int .i64 sb, .int .i64 st] 54)) (w.heap.size + 1) 54 #[.string sn, .string sc, .int .i64 sv, .int .i64 sz, .int .i64 sb, .int .i64 st]).alloc (.cells #[.string ⟨#[]⟩, .int .i64 0, .int .i64 0, .int .i64 0, .int .i64 0, .bool false, .int .i64 0, .bool false, .bool false, .bool false] 82)
      have K3 : Bk _ (w.heap.size + 1 + 1) 82 #[.string ⟨#[]⟩, .int .i64 0, .int .i64 0, .int .i64 0, .int .i64 0, .bool false, .int .i64 0, .bool false, .bool false, .bool false] := ⟨al3 w (.cells #[.string vn, .int .i64 vo, .int .i64 vk, .int .i64 vb, .int .i64 vt, .bool vd, .int .i64 vst, .bool true, .bool vtl, .bool vot] 82) (.cells #[.string sn, .string sc, .int .i64 sv, .int .i64 sz, .int .i64 sb, .int .i64 st] 54) (.cells #[.string ⟨#[]⟩, .int .i64 0, .int .i64 0, .int .i64 0, .int .i64 0, .bool false, .int .i64 0, .bool false, .bool false, .bool false] 82)⟩
      have F1 := bl3 w (.cells #[.string vn, .int .i64 vo, .int .i64 vk, .int .i64 vb, .int .i64 vt, .bool vd, .int .i64 vst, .bool true, .bool vtl, .bool vot] 82) (.cells #[.string sn, .string sc, .int .i64 sv, .int .i64 sz, .int .i64 sb, .int .i64 st] 54) (.cells #[.string ⟨#[]⟩, .int .i64 0, .int .i64 0, .int .i64 0, .int .i64 0, .bool false, .int .i64 0, .bool false, .bool false, .bool false] 82)
      go_enter Try.func36, Try.ntmps36
      go_upto_region 4 with (fail)
      generalize (((w.alloc (.cells #[.string vn, .int .i64 vo, .int .i64 vk, .int .i64 vb, .int .i64 vt, .bool vd, .int .i64 vst, .bool true, .bool vtl, .bool vot] 82)).alloc (.cells #[.string sn, .string sc, .int .i64 sv, .int .i64 sz, .int .i64 sb, .int .i64 st] 54)).alloc (.cells #[.string ⟨#[]⟩, .int .i64 0, .int .i64 0, .int .i64 0, .int .i64 0, .bool false, .int .i64 0, .bool false, .bool false, .bool false] 82)) = v1 at *
      rw [hB] at K1 K2 K3 F1
      have c10 := K1.cell 0 rfl; have c11 := K1.cell 1 rfl; have c12 := K1.cell 2 rfl; have c13 := K1.cell 3 rfl; have c14 := K1.cell 4 rfl; have c15 := K1.cell 5 rfl; have c16 := K1.cell 6 rfl; have c17 := K1.cell 7 rfl; have c18 := K1.cell 8 rfl; have c19 := K1.cell 9 rfl
      have f18 := K1.fro 8; have f19 := K1.fro 9
      have c25 := K2.cell 5 rfl
      have HK1 : Hid _ := ⟨K1⟩
      have HK3 : Hid _ := ⟨K3⟩
      have HF : Hid _ := ⟨F1⟩
      clear K1 K2 K3 F1
      have hne : B + 1 + 1 ≠ B := by omega
      cases vtl
      · cases vot
        · cases p6
          · skip
            go_upto_region 6 with (fail)
            have K1 : Bk _ B _ #[.string vn, .int .i64 vo, .int .i64 vk, .int .i64 vb, .int .i64 vt, .bool vd, .int .i64 vst, .bool true, .bool false, .bool (!p0)] := (HK1.out.setC 8 (.bool false)).setC 9 (.bool (!p0))
            have K3 := (HK3.out.setCo ⟨B, 8, none⟩ (.bool false) hne).setCo ⟨B, 9, none⟩ (.bool (!p0)) hne
            have F1 := bel_setC (bel_setC HF.out ⟨B, 8, none⟩ (Nat.le_refl _) (.bool false)) ⟨B, 9, none⟩ (Nat.le_refl _) (.bool (!p0))
            generalize ((v1.setCell ⟨B, 8, none⟩ (.bool false)).setCell ⟨B, 9, none⟩ (.bool (!p0))) = v2 at *
            iterate 1 go_step
            refine wpList_load_of (p := ⟨B, 0, none⟩) (v := .agg #[.string vn, .int .i64 vo, .int .i64 vk, .int .i64 vb, .int .i64 vt, .bool vd, .int .i64 vst, .bool true, .bool false, .bool (!p0)]) rfl (by kernel_rfl) (by kernel_rfl) (K1.loadA 0 _ Try.underlying82 sizeUs rfl rfl) ?_
            simp only [Act.put, List.getElem_toArray, List.getElem_cons_succ, List.getElem_cons_zero, List.setIfInBounds_toArray, List.set_cons_zero, List.set_cons_succ]
            refine wpList_part (g := B + 1 + 1) (off := 0) (val := .agg #[.string vn, .int .i64 vo, .int .i64 vk, .int .i64 vb, .int .i64 vt, .bool vd, .int .i64 vst, .bool true, .bool false, .bool (!p0)]) (new := #[.string vn, .int .i64 vo, .int .i64 vk, .int .i64 vb, .int .i64 vt, .bool vd, .int .i64 vst, .bool true, .bool false, .bool (!p0)]) rfl rfl (by kernel_rfl) (by kernel_rfl) K3 (by kernel_rfl) (Nat.le_of_ble_eq_true (by kernel_rfl)) (oneAll (by kernel_rfl)) (by kernel_rfl) ?_
            simp only [Act.put, List.getElem_toArray, List.getElem_cons_succ, List.getElem_cons_zero, List.setIfInBounds_toArray, List.set_cons_zero, List.set_cons_succ]
            have K4 := K3.setR #[.string vn, .int .i64 vo, .int .i64 vk, .int .i64 vb, .int .i64 vt, .bool vd, .int .i64 vst, .bool true, .bool false, .bool (!p0)]
            have F2 := bel_setR F1 (B + 1 + 1) (by omega) #[.string vn, .int .i64 vo, .int .i64 vk, .int .i64 vb, .int .i64 vt, .bool vd, .int .i64 vst, .bool true, .bool false, .bool (!p0)]
            refine wpList_nil ?_
            go_wp2_with fail
            exact bodyPost_ret (v := .agg _) (results_cell_row (p := 8) (ty := 82) (by kernel_rfl) _ _ (B + 1 + 1) 82 _ (0, 0) _ (by kernel_rfl) K4.hp Try.underlying82 rfl (by kernel_rfl)) rfl ⟨rfl, by rw [hB]; exact F2⟩
          · skip
            go_upto_region 6 with (fail)
            have K1 : Bk _ B _ #[.string vn, .int .i64 vo, .int .i64 vk, .int .i64 vb, .int .i64 vt, .bool vd, .int .i64 vst, .bool true, .bool true, .bool false] := (HK1.out.setC 8 (.bool true)).setC 9 (.bool false)
            have K3 := (HK3.out.setCo ⟨B, 8, none⟩ (.bool true) hne).setCo ⟨B, 9, none⟩ (.bool false) hne
            have F1 := bel_setC (bel_setC HF.out ⟨B, 8, none⟩ (Nat.le_refl _) (.bool true)) ⟨B, 9, none⟩ (Nat.le_refl _) (.bool false)
            generalize ((v1.setCell ⟨B, 8, none⟩ (.bool true)).setCell ⟨B, 9, none⟩ (.bool false)) = v2 at *
            iterate 1 go_step
            refine wpList_load_of (p := ⟨B, 0, none⟩) (v := .agg #[.string vn, .int .i64 vo, .int .i64 vk, .int .i64 vb, .int .i64 vt, .bool vd, .int .i64 vst, .bool true, .bool true, .bool false]) rfl (by kernel_rfl) (by kernel_rfl) (K1.loadA 0 _ Try.underlying82 sizeUs rfl rfl) ?_
            simp only [Act.put, List.getElem_toArray, List.getElem_cons_succ, List.getElem_cons_zero, List.setIfInBounds_toArray, List.set_cons_zero, List.set_cons_succ]
            refine wpList_part (g := B + 1 + 1) (off := 0) (val := .agg #[.string vn, .int .i64 vo, .int .i64 vk, .int .i64 vb, .int .i64 vt, .bool vd, .int .i64 vst, .bool true, .bool true, .bool false]) (new := #[.string vn, .int .i64 vo, .int .i64 vk, .int .i64 vb, .int .i64 vt, .bool vd, .int .i64 vst, .bool true, .bool true, .bool false]) rfl rfl (by kernel_rfl) (by kernel_rfl) K3 (by kernel_rfl) (Nat.le_of_ble_eq_true (by kernel_rfl)) (oneAll (by kernel_rfl)) (by kernel_rfl) ?_
            simp only [Act.put, List.getElem_toArray, List.getElem_cons_succ, List.getElem_cons_zero, List.setIfInBounds_toArray, List.set_cons_zero, List.set_cons_succ]
            have K4 := K3.setR #[.string vn, .int .i64 vo, .int .i64 vk, .int .i64 vb, .int .i64 vt, .bool vd, .int .i64 vst, .bool true, .bool true, .bool false]
            have F2 := bel_setR F1 (B + 1 + 1) (by omega) #[.string vn, .int .i64 vo, .int .i64 vk, .int .i64 vb, .int .i64 vt, .bool vd, .int .i64 vst, .bool true, .bool true, .bool false]
            refine wpList_nil ?_
            go_wp2_with fail
            exact bodyPost_ret (v := .agg _) (results_cell_row (p := 8) (ty := 82) (by kernel_rfl) _ _ (B + 1 + 1) 82 _ (0, 0) _ (by kernel_rfl) K4.hp Try.underlying82 rfl (by kernel_rfl)) rfl ⟨rfl, by rw [hB]; exact F2⟩
        · skip
          go_upto_region 6 with (fail)
          have K1 : Bk _ B _ #[.string vn, .int .i64 vo, .int .i64 vk, .int .i64 vb, .int .i64 vt, .bool vd, .int .i64 vst, .bool true, .bool p6, .bool true] := (HK1.out.setC 8 (.bool p6)).setC 9 (.bool true)
          have K3 := (HK3.out.setCo ⟨B, 8, none⟩ (.bool p6) hne).setCo ⟨B, 9, none⟩ (.bool true) hne
          have F1 := bel_setC (bel_setC HF.out ⟨B, 8, none⟩ (Nat.le_refl _) (.bool p6)) ⟨B, 9, none⟩ (Nat.le_refl _) (.bool true)
          generalize ((v1.setCell ⟨B, 8, none⟩ (.bool p6)).setCell ⟨B, 9, none⟩ (.bool true)) = v2 at *
          iterate 1 go_step
          refine wpList_load_of (p := ⟨B, 0, none⟩) (v := .agg #[.string vn, .int .i64 vo, .int .i64 vk, .int .i64 vb, .int .i64 vt, .bool vd, .int .i64 vst, .bool true, .bool p6, .bool true]) rfl (by kernel_rfl) (by kernel_rfl) (K1.loadA 0 _ Try.underlying82 sizeUs rfl rfl) ?_
          simp only [Act.put, List.getElem_toArray, List.getElem_cons_succ, List.getElem_cons_zero, List.setIfInBounds_toArray, List.set_cons_zero, List.set_cons_succ]
          refine wpList_part (g := B + 1 + 1) (off := 0) (val := .agg #[.string vn, .int .i64 vo, .int .i64 vk, .int .i64 vb, .int .i64 vt, .bool vd, .int .i64 vst, .bool true, .bool p6, .bool true]) (new := #[.string vn, .int .i64 vo, .int .i64 vk, .int .i64 vb, .int .i64 vt, .bool vd, .int .i64 vst, .bool true, .bool p6, .bool true]) rfl rfl (by kernel_rfl) (by kernel_rfl) K3 (by kernel_rfl) (Nat.le_of_ble_eq_true (by kernel_rfl)) (oneAll (by kernel_rfl)) (by kernel_rfl) ?_
          simp only [Act.put, List.getElem_toArray, List.getElem_cons_succ, List.getElem_cons_zero, List.setIfInBounds_toArray, List.set_cons_zero, List.set_cons_succ]
          have K4 := K3.setR #[.string vn, .int .i64 vo, .int .i64 vk, .int .i64 vb, .int .i64 vt, .bool vd, .int .i64 vst, .bool true, .bool p6, .bool true]
          have F2 := bel_setR F1 (B + 1 + 1) (by omega) #[.string vn, .int .i64 vo, .int .i64 vk, .int .i64 vb, .int .i64 vt, .bool vd, .int .i64 vst, .bool true, .bool p6, .bool true]
          refine wpList_nil ?_
          go_wp2_with fail
          exact bodyPost_ret (v := .agg _) (results_cell_row (p := 8) (ty := 82) (by kernel_rfl) _ _ (B + 1 + 1) 82 _ (0, 0) _ (by kernel_rfl) K4.hp Try.underlying82 rfl (by kernel_rfl)) rfl ⟨rfl, by rw [hB]; exact F2⟩
      · cases vot
        · cases p6
          · skip
            go_upto_region 6 with (fail)
            have K1 : Bk _ B _ #[.string vn, .int .i64 vo, .int .i64 vk, .int .i64 vb, .int .i64 vt, .bool vd, .int .i64 vst, .bool true, .bool true, .bool (!p0)] := (HK1.out.setC 8 (.bool true)).setC 9 (.bool (!p0))
            have K3 := (HK3.out.setCo ⟨B, 8, none⟩ (.bool true) hne).setCo ⟨B, 9, none⟩ (.bool (!p0)) hne
            have F1 := bel_setC (bel_setC HF.out ⟨B, 8, none⟩ (Nat.le_refl _) (.bool true)) ⟨B, 9, none⟩ (Nat.le_refl _) (.bool (!p0))
            generalize ((v1.setCell ⟨B, 8, none⟩ (.bool true)).setCell ⟨B, 9, none⟩ (.bool (!p0))) = v2 at *
            iterate 1 go_step
            refine wpList_load_of (p := ⟨B, 0, none⟩) (v := .agg #[.string vn, .int .i64 vo, .int .i64 vk, .int .i64 vb, .int .i64 vt, .bool vd, .int .i64 vst, .bool true, .bool true, .bool (!p0)]) rfl (by kernel_rfl) (by kernel_rfl) (K1.loadA 0 _ Try.underlying82 sizeUs rfl rfl) ?_
            simp only [Act.put, List.getElem_toArray, List.getElem_cons_succ, List.getElem_cons_zero, List.setIfInBounds_toArray, List.set_cons_zero, List.set_cons_succ]
            refine wpList_part (g := B + 1 + 1) (off := 0) (val := .agg #[.string vn, .int .i64 vo, .int .i64 vk, .int .i64 vb, .int .i64 vt, .bool vd, .int .i64 vst, .bool true, .bool true, .bool (!p0)]) (new := #[.string vn, .int .i64 vo, .int .i64 vk, .int .i64 vb, .int .i64 vt, .bool vd, .int .i64 vst, .bool true, .bool true, .bool (!p0)]) rfl rfl (by kernel_rfl) (by kernel_rfl) K3 (by kernel_rfl) (Nat.le_of_ble_eq_true (by kernel_rfl)) (oneAll (by kernel_rfl)) (by kernel_rfl) ?_
            simp only [Act.put, List.getElem_toArray, List.getElem_cons_succ, List.getElem_cons_zero, List.setIfInBounds_toArray, List.set_cons_zero, List.set_cons_succ]
            have K4 := K3.setR #[.string vn, .int .i64 vo, .int .i64 vk, .int .i64 vb, .int .i64 vt, .bool vd, .int .i64 vst, .bool true, .bool true, .bool (!p0)]
            have F2 := bel_setR F1 (B + 1 + 1) (by omega) #[.string vn, .int .i64 vo, .int .i64 vk, .int .i64 vb, .int .i64 vt, .bool vd, .int .i64 vst, .bool true, .bool true, .bool (!p0)]
            refine wpList_nil ?_
            go_wp2_with fail
            exact bodyPost_ret (v := .agg _) (results_cell_row (p := 8) (ty := 82) (by kernel_rfl) _ _ (B + 1 + 1) 82 _ (0, 0) _ (by kernel_rfl) K4.hp Try.underlying82 rfl (by kernel_rfl)) rfl ⟨rfl, by rw [hB]; exact F2⟩
          · skip
            go_upto_region 6 with (fail)
            have K1 : Bk _ B _ #[.string vn, .int .i64 vo, .int .i64 vk, .int .i64 vb, .int .i64 vt, .bool vd, .int .i64 vst, .bool true, .bool true, .bool false] := (HK1.out.setC 8 (.bool true)).setC 9 (.bool false)
            have K3 := (HK3.out.setCo ⟨B, 8, none⟩ (.bool true) hne).setCo ⟨B, 9, none⟩ (.bool false) hne
            have F1 := bel_setC (bel_setC HF.out ⟨B, 8, none⟩ (Nat.le_refl _) (.bool true)) ⟨B, 9, none⟩ (Nat.le_refl _) (.bool false)
            generalize ((v1.setCell ⟨B, 8, none⟩ (.bool true)).setCell ⟨B, 9, none⟩ (.bool false)) = v2 at *
            iterate 1 go_step
            refine wpList_load_of (p := ⟨B, 0, none⟩) (v := .agg #[.string vn, .int .i64 vo, .int .i64 vk, .int .i64 vb, .int .i64 vt, .bool vd, .int .i64 vst, .bool true, .bool true, .bool false]) rfl (by kernel_rfl) (by kernel_rfl) (K1.loadA 0 _ Try.underlying82 sizeUs rfl rfl) ?_
            simp only [Act.put, List.getElem_toArray, List.getElem_cons_succ, List.getElem_cons_zero, List.setIfInBounds_toArray, List.set_cons_zero, List.set_cons_succ]
            refine wpList_part (g := B + 1 + 1) (off := 0) (val := .agg #[.string vn, .int .i64 vo, .int .i64 vk, .int .i64 vb, .int .i64 vt, .bool vd, .int .i64 vst, .bool true, .bool true, .bool false]) (new := #[.string vn, .int .i64 vo, .int .i64 vk, .int .i64 vb, .int .i64 vt, .bool vd, .int .i64 vst, .bool true, .bool true, .bool false]) rfl rfl (by kernel_rfl) (by kernel_rfl) K3 (by kernel_rfl) (Nat.le_of_ble_eq_true (by kernel_rfl)) (oneAll (by kernel_rfl)) (by kernel_rfl) ?_
            simp only [Act.put, List.getElem_toArray, List.getElem_cons_succ, List.getElem_cons_zero, List.setIfInBounds_toArray, List.set_cons_zero, List.set_cons_succ]
            have K4 := K3.setR #[.string vn, .int .i64 vo, .int .i64 vk, .int .i64 vb, .int .i64 vt, .bool vd, .int .i64 vst, .bool true, .bool true, .bool false]
            have F2 := bel_setR F1 (B + 1 + 1) (by omega) #[.string vn, .int .i64 vo, .int .i64 vk, .int .i64 vb, .int .i64 vt, .bool vd, .int .i64 vst, .bool true, .bool true, .bool false]
            refine wpList_nil ?_
            go_wp2_with fail
            exact bodyPost_ret (v := .agg _) (results_cell_row (p := 8) (ty := 82) (by kernel_rfl) _ _ (B + 1 + 1) 82 _ (0, 0) _ (by kernel_rfl) K4.hp Try.underlying82 rfl (by kernel_rfl)) rfl ⟨rfl, by rw [hB]; exact F2⟩
        · skip
          go_upto_region 6 with (fail)
          have K1 : Bk _ B _ #[.string vn, .int .i64 vo, .int .i64 vk, .int .i64 vb, .int .i64 vt, .bool vd, .int .i64 vst, .bool true, .bool true, .bool true] := (HK1.out.setC 8 (.bool true)).setC 9 (.bool true)
          have K3 := (HK3.out.setCo ⟨B, 8, none⟩ (.bool true) hne).setCo ⟨B, 9, none⟩ (.bool true) hne
          have F1 := bel_setC (bel_setC HF.out ⟨B, 8, none⟩ (Nat.le_refl _) (.bool true)) ⟨B, 9, none⟩ (Nat.le_refl _) (.bool true)
          generalize ((v1.setCell ⟨B, 8, none⟩ (.bool true)).setCell ⟨B, 9, none⟩ (.bool true)) = v2 at *
          iterate 1 go_step
          refine wpList_load_of (p := ⟨B, 0, none⟩) (v := .agg #[.string vn, .int .i64 vo, .int .i64 vk, .int .i64 vb, .int .i64 vt, .bool vd, .int .i64 vst, .bool true, .bool true, .bool true]) rfl (by kernel_rfl) (by kernel_rfl) (K1.loadA 0 _ Try.underlying82 sizeUs rfl rfl) ?_
          simp only [Act.put, List.getElem_toArray, List.getElem_cons_succ, List.getElem_cons_zero, List.setIfInBounds_toArray, List.set_cons_zero, List.set_cons_succ]
          refine wpList_part (g := B + 1 + 1) (off := 0) (val := .agg #[.string vn, .int .i64 vo, .int .i64 vk, .int .i64 vb, .int .i64 vt, .bool vd, .int .i64 vst, .bool true, .bool true, .bool true]) (new := #[.string vn, .int .i64 vo, .int .i64 vk, .int .i64 vb, .int .i64 vt, .bool vd, .int .i64 vst, .bool true, .bool true, .bool true]) rfl rfl (by kernel_rfl) (by kernel_rfl) K3 (by kernel_rfl) (Nat.le_of_ble_eq_true (by kernel_rfl)) (oneAll (by kernel_rfl)) (by kernel_rfl) ?_
          simp only [Act.put, List.getElem_toArray, List.getElem_cons_succ, List.getElem_cons_zero, List.setIfInBounds_toArray, List.set_cons_zero, List.set_cons_succ]
          have K4 := K3.setR #[.string vn, .int .i64 vo, .int .i64 vk, .int .i64 vb, .int .i64 vt, .bool vd, .int .i64 vst, .bool true, .bool true, .bool true]
          have F2 := bel_setR F1 (B + 1 + 1) (by omega) #[.string vn, .int .i64 vo, .int .i64 vk, .int .i64 vb, .int .i64 vt, .bool vd, .int .i64 vst, .bool true, .bool true, .bool true]
          refine wpList_nil ?_
          go_wp2_with fail
          exact bodyPost_ret (v := .agg _) (results_cell_row (p := 8) (ty := 82) (by kernel_rfl) _ _ (B + 1 + 1) 82 _ (0, 0) _ (by kernel_rfl) K4.hp Try.underlying82 rfl (by kernel_rfl)) rfl ⟨rfl, by rw [hB]; exact F2⟩
end Go.Proofs.Ytgoaegembijdcaa
