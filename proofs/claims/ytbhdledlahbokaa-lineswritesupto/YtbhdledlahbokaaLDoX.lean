/- One command. One command that was written. -/
import Derived.Test.YtbhdledlahbokaaLExt
namespace Go.Proofs.Ytbhdledlahbokaa
open Go.ChangeShapes Go.WideShapes Go.ChangeAt Go.RowKit
set_option linter.unusedVariables false
set_option linter.unusedSimpArgs false

def cmdA : Array Value := #[.func (.func 79) #[] #[], .func (.func 80) #[] #[], .func (.func 81) #[] #[], .func (.func 82) #[] #[], .func (.func 83) #[] #[], .func (.func 84) #[] #[], .func (.func 85) #[] #[], .func (.func 85) #[] #[], .func (.func 86) #[] #[], .func (.func 85) #[] #[], .func (.func 85) #[] #[], .func (.func 85) #[] #[], .func (.func 85) #[] #[]]
theorem sizeCmd : (Try.prog.info? 126).map (·.size) = some 13 := by kernel_rfl
theorem cmd_one : ∀ u ∈ (Value.agg cmdA).cells.toList, u.oneCell' = true := by
  intro u hu
  have e : (Value.agg cmdA).cells.toList = cmdA.toList := rfl
  rw [e] at hu
  simp only [cmdA, List.mem_cons, List.not_mem_nil, or_false] at hu
  rcases hu with rfl | rfl | rfl | rfl | rfl | rfl | rfl | rfl | rfl | rfl | rfl | rfl | rfl <;> rfl
theorem commands_any (w : World) : Calls Try.prog 68 #[] w fun e w' => e = .returned (.agg cmdA) ∧ Below w.heap.size w w' := by
  have HK : Hid _ := ⟨Bk.new w (Array.replicate 13 .nilFunc) 126⟩
  go_enter Try.func68, Try.ntmps68
  go_wp2_with (refine wpList_part (g := w.heap.size) (off := 0) (val := .agg cmdA) (new := cmdA) rfl rfl (by rfl) (by rfl) HK.out (by rw [sizeCmd]; rfl) (by show 0 + 13 ≤ 13; omega) cmd_one rfl ?_)
  refine bodyPost_ret (v := .agg cmdA) ?_ rfl ⟨rfl, ((Below.refl _ w).alloc (Nat.le_refl _) _).trans ⟨rfl, rfl, rfl, by simp, fun k hk => setRow_other _ _ k _ (by omega)⟩⟩
  exact results_cell_row (p := 0) (ty := 126) (by kernel_rfl) _ _ w.heap.size 126 _ (0, 0) _ (by kernel_rfl) ((HK.out.setR cmdA).hp) Try.underlying126 rfl (by rw [sizeCmd]; rfl)
section
variable {base : Nat × Nat} {w0 w : World} {sb c : Nat} {g off len cp : Nat} {bs : Nat → Int} {m : Ms} {cap : Nat}
theorem By.one (hB : By base w0 (some ⟨g, off, none⟩) len cp bs) {a : Nat} (ha : a < len) (W : World) (hW : Fr base w0 W) : W.cell? ⟨g, off + a, none⟩ = some (.int .u8 (bs a)) := by
  rcases hB.row W hW with h | ⟨b, o, e, h⟩
  · omega
  · cases e
    exact h a ha

set_option maxRecDepth 10000 in
set_option maxHeartbeats 2000000 in
theorem do_call (h : SA base w0 w sb c (.slice (some ⟨g, off, none⟩) len cp) m cap) (hB : By base w0 (some ⟨g, off, none⟩) len cp bs) {x : Nat} (hx : bs m.at' = (x : Int)) (hlt : x < 13) (hin : m.at' < len) (f : Nat) (hf : cmdA[x]? = some (.func (.func f) #[] #[]))
    (hent : ∀ args w, (callFunc f args).run Try.prog w = .ok (.enter f args) w) (m' : Ms)
    (hC : ∀ W, SA base w0 W sb c (.slice (some ⟨g, off, none⟩) len cp) { m with at' := m.at' + 1 } cap → Calls Try.prog f #[.pointer (some ⟨sb, 0, none⟩)] W fun e w' => e = .returned (.bool true) ∧ SA base w0 w' sb c (.slice (some ⟨g, off, none⟩) len cp) m' cap) :
    Calls Try.prog 70 #[.pointer (some ⟨sb, 0, none⟩), .agg cmdA] w fun e w' => e = .returned (.bool true) ∧ SA base w0 w' sb c (.slice (some ⟨g, off, none⟩) len cp) m' cap := by
  have hsh := hB.short
  have hx13 : (x : Int) < 13 := by omega
  have hx0 : (0 : Int) ≤ (x : Int) := by omega
  have i1 : (m.at' : Int) < (len : Int) := by omega
  have i0 : (0 : Int) ≤ (m.at' : Int) := by omega
  have hx256 : (x : Int) < 256 := by omega
  have HB2 : Hid _ := ⟨hB.one hin⟩
  rw [hx] at HB2
  have hT : wrap64 ((m.at' : Int) + 1) = ((m.at' + 1 : Nat) : Int) := by rw [w64_id (by omega)]; omega
  have HS : Hid _ := ⟨h⟩
  have HC : Hid _ := ⟨hC⟩
  have HF : Hid _ := ⟨hf⟩
  clear h hB hx hin hC hf hsh
  generalize m.at' + 1 = T at *
  go_enter Try.func70, Try.ntmps70
  go_upto_region 1 with (fail)
  have HSv : Hid (SA base w0 (w.alloc (.cells cmdA 126)) sb c (.slice (some ⟨g, off, none⟩) len cp) m cap) := ⟨HS.out.belw ((Below.refl _ _).alloc (Nat.le_refl _) _)⟩
  have HKv : Hid _ := ⟨Bk.new w cmdA 126⟩
  have HBs : Hid (w.heap.size ≠ sb ∧ w.heap.size ≠ c) := ⟨by have := HS.out.bk.lt; have := (Array.getElem?_eq_some_iff.1 HS.out.ch).1; omega⟩
  clear HS
  generalize w.alloc (.cells cmdA 126) = V at *
  generalize w.heap.size = BC at *
  have d0 := HSv.out.c0
  have d1 := HSv.out.c1
  have e0 := HB2.out V HSv.out.bel
  go_quiet (fail)
  have HSq : Hid (SA base w0 (V.drewN nq) sb c (.slice (some ⟨g, off, none⟩) len cp) m cap) := ⟨HSv.out.belw (below_drewN (Below.refl _ _) nq)⟩
  have HKq : Hid (Bk (V.drewN nq) BC 126 cmdA) := ⟨HKv.out.bel (below_drewN (Below.refl _ _) nq) HKv.out.lt⟩
  clear d0 d1 e0 HSv HKv HB2 i0 i1
  generalize V.drewN nq = W at *
  have d1 := HSq.out.c1
  have f1 := HSq.out.bk.fro 1
  have HN : Hid _ := ⟨HSq.out.set (m' := { m with at' := T }) 1 (.int .i64 (T : Int)) rfl rfl⟩
  have HKn : Hid (Bk (W.setCell ⟨sb, 1, none⟩ (.int .i64 (T : Int))) BC 126 cmdA) := ⟨HKq.out.of (Below.heap_setCell W ⟨sb, 1, none⟩ _ BC HBs.out.1)⟩
  go_upto_region 3 with (fail)
  clear d1 f1 HSq HKq hT
  generalize W.setCell ⟨sb, 1, none⟩ (.int .i64 (T : Int)) = W2 at *
  have e1 : W2.cell? ⟨BC, x, none⟩ = some (.func (.func f) #[] #[]) := HKn.out.cell x HF.out
  clear HKn HF HBs
  go_wp2_with (go_at_fn f; (with_reducible refine (HC.out _ HN.out).mono ?_); rintro e w2 ⟨he, hs2⟩; subst he; have H2 : Hid _ := ⟨hs2⟩; clear hs2)
  go_ret
  exact ⟨rfl, H2.out⟩

set_option maxRecDepth 10000 in
set_option maxHeartbeats 2000000 in
theorem do_spc (h : SA base w0 w sb c (.slice (some ⟨g, off, none⟩) len cp) m cap) (hB : By base w0 (some ⟨g, off, none⟩) len cp bs) {x : Nat} (hx : bs m.at' = (x : Int)) (a l : Int) (hsp : (x : Int) = spec a l) (ha : 0 ≤ a) (hl : -5 ≤ l ∧ l ≤ 8) (hle : spec a l ≤ 255) (hin : m.at' < len) (hp : (0 ≤ m.row.at' ∧ m.row.at' ≤ 4611686018427387904) ∧ m.row.at' + a ≤ 4611686018427387904) (hq : (0 ≤ m.row.li ∧ m.row.li ≤ 4611686018427387904) ∧ 0 ≤ m.row.li + l ∧ m.row.li + l ≤ 4611686018427387904) (hr : 0 ≤ m.rows ∧ m.rows < 4000) (hroom : m.evs.length < cap) :
    Calls Try.prog 70 #[.pointer (some ⟨sb, 0, none⟩), .agg cmdA] w fun e w' => e = .returned (.bool true) ∧ SA base w0 w' sb c (.slice (some ⟨g, off, none⟩) len cp) { m with at' := m.at' + 1, row := { m.row with at' := m.row.at' + a, li := m.row.li + l }, rows := m.rows + 1, evs := m.evs ++ [.row { m.row with at' := m.row.at' + a, li := m.row.li + l }] } cap := by
  have hsh := hB.short
  have hx13 : ¬ (x : Int) < 13 := by rw [hsp]; unfold spec; omega
  have hx0 : (0 : Int) ≤ (x : Int) := by omega
  obtain ⟨y, hy⟩ : ∃ y, (x : Int) - 13 = y := ⟨_, rfl⟩
  obtain ⟨z, hz⟩ : ∃ z, l + 5 = z := ⟨_, rfl⟩
  have hy' : y = z + 14 * a := by rw [← hy, hsp, ← hz]; unfold spec; omega
  have hq1 : y / 14 = a := by omega
  have hq2 : y % 14 = z := by omega
  have hq3 : y.tdiv 14 = a := by rw [Int.tdiv_eq_ediv_of_nonneg (by omega)]; exact hq1
  have hq4 : y.tmod 14 = z := by rw [Int.tmod_eq_emod_of_nonneg (by omega)]; exact hq2
  have hw13 : wrap64 y = y := w64_id (by omega)
  have hz5 : z + -5 = l := by omega
  have hz6 : z - 5 = l := by omega
  have hwz : wrap64 l = l := w64_id (by omega)
  clear hy' hz
  have ha' : a ≤ 17 := by unfold spec at hle; omega
  have hwa : wrap64 a = a := w64_id (by omega)
  have i1 : (m.at' : Int) < (len : Int) := by omega
  have i0 : (0 : Int) ≤ (m.at' : Int) := by omega
  have hx256 : (x : Int) < 256 := by omega
  have HB2 : Hid _ := ⟨hB.one hin⟩
  rw [hx] at HB2
  have hT : wrap64 ((m.at' : Int) + 1) = ((m.at' + 1 : Nat) : Int) := by rw [w64_id (by omega)]; omega
  have HS : Hid _ := ⟨h⟩
  have HM1 : Hid (∀ W, SA base w0 W sb c (.slice (some ⟨g, off, none⟩) len cp) { m with at' := m.at' + 1 } cap → Calls Try.prog 87 #[.pointer (some ⟨sb, 0, none⟩), .int .i64 a] W fun e w' => e = .returned (.bool true) ∧ SA base w0 w' sb c (.slice (some ⟨g, off, none⟩) len cp) { m with at' := m.at' + 1, row := { m.row with at' := m.row.at' + a } } cap) := ⟨fun W hW => moveAt_ok hW a hp.1 ⟨ha, hp.2⟩⟩
  have HM2 : Hid (∀ W, SA base w0 W sb c (.slice (some ⟨g, off, none⟩) len cp) { m with at' := m.at' + 1, row := { m.row with at' := m.row.at' + a } } cap → Calls Try.prog 88 #[.pointer (some ⟨sb, 0, none⟩), .int .i64 l] W fun e w' => e = .returned (.bool true) ∧ SA base w0 w' sb c (.slice (some ⟨g, off, none⟩) len cp) { m with at' := m.at' + 1, row := { m.row with at' := m.row.at' + a, li := m.row.li + l } } cap) := ⟨fun W hW => moveLine_ok hW l hq.1 (by omega) hq.2⟩
  have HM3 : Hid (∀ W, SA base w0 W sb c (.slice (some ⟨g, off, none⟩) len cp) { m with at' := m.at' + 1, row := { m.row with at' := m.row.at' + a, li := m.row.li + l } } cap → Calls Try.prog 80 #[.pointer (some ⟨sb, 0, none⟩)] W fun e w' => e = .returned (.bool true) ∧ SA base w0 w' sb c (.slice (some ⟨g, off, none⟩) len cp) { m with at' := m.at' + 1, row := { m.row with at' := m.row.at' + a, li := m.row.li + l }, rows := m.rows + 1, evs := m.evs ++ [.row { m.row with at' := m.row.at' + a, li := m.row.li + l }] } cap) := ⟨fun W hW => tellRow_ok hW hr hroom⟩
  clear h hB hx hin hsh hsp hle ha ha' hl hp hq hr hroom
  generalize m.at' + 1 = T at *
  go_enter Try.func70, Try.ntmps70
  go_upto_region 1 with (fail)
  have HSv : Hid (SA base w0 (w.alloc (.cells cmdA 126)) sb c (.slice (some ⟨g, off, none⟩) len cp) m cap) := ⟨HS.out.belw ((Below.refl _ _).alloc (Nat.le_refl _) _)⟩
  have HKv : Hid _ := ⟨Bk.new w cmdA 126⟩
  have HBs : Hid (w.heap.size ≠ sb ∧ w.heap.size ≠ c) := ⟨by have := HS.out.bk.lt; have := (Array.getElem?_eq_some_iff.1 HS.out.ch).1; omega⟩
  clear HS
  generalize w.alloc (.cells cmdA 126) = V at *
  generalize w.heap.size = BC at *
  have d0 := HSv.out.c0
  have d1 := HSv.out.c1
  have e0 := HB2.out V HSv.out.bel
  go_quiet (fail)
  have HSq : Hid (SA base w0 (V.drewN nq) sb c (.slice (some ⟨g, off, none⟩) len cp) m cap) := ⟨HSv.out.belw (below_drewN (Below.refl _ _) nq)⟩
  have HKq : Hid (Bk (V.drewN nq) BC 126 cmdA) := ⟨HKv.out.bel (below_drewN (Below.refl _ _) nq) HKv.out.lt⟩
  clear d0 d1 e0 HSv HKv HB2 i0 i1
  generalize V.drewN nq = W at *
  have d1 := HSq.out.c1
  have f1 := HSq.out.bk.fro 1
  have HN : Hid _ := ⟨HSq.out.set (m' := { m with at' := T }) 1 (.int .i64 (T : Int)) rfl rfl⟩
  have HKn : Hid (Bk (W.setCell ⟨sb, 1, none⟩ (.int .i64 (T : Int))) BC 126 cmdA) := ⟨HKq.out.of (Below.heap_setCell W ⟨sb, 1, none⟩ _ BC HBs.out.1)⟩
  go_upto_region 3 with (fail)
  clear d1 f1 HSq HKq hT
  generalize W.setCell ⟨sb, 1, none⟩ (.int .i64 (T : Int)) = W2 at *
  clear HKn HBs
  go_wp2_with (first
    | (go_at_call 87; (with_reducible refine (HM1.out _ HN.out).mono ?_); rintro e w2 ⟨he, hs2⟩; subst he; have H2 : Hid _ := ⟨hs2⟩; clear hs2)
    | (go_at_call 88; (with_reducible refine (HM2.out _ H2.out).mono ?_); rintro e w3 ⟨he, hs3⟩; subst he; have H3 : Hid _ := ⟨hs3⟩; clear hs3)
    | (go_at_call 80; (with_reducible refine (HM3.out _ H3.out).mono ?_); rintro e w4 ⟨he, hs4⟩; subst he; have H4 : Hid _ := ⟨hs4⟩; clear hs4))
  go_ret
  exact ⟨rfl, H4.out⟩
end

theorem At.app {bs : Nat → Int} {a : Nat} {l k : List Int} (h : At bs a (l ++ k)) : At bs a l ∧ At bs (a + l.length) k := by
  constructor
  · intro i hi
    rw [h i (by simp; omega)]
    simp [List.getElem?_append_left hi]
  · intro i hi
    have := h (l.length + i) (by simp; omega)
    rw [Nat.add_assoc, this, List.getD_eq_getElem?_getD, List.getD_eq_getElem?_getD, List.getElem?_append_right (by omega)]
    congr 2
    omega
section
variable {base : Nat × Nat} {w0 w : World} {sb c : Nat} {g off len cp : Nat} {bs : Nat → Int} {m : Ms} {cap : Nat}
set_option maxHeartbeats 1000000 in
theorem do_ok (h : SA base w0 w sb c (.slice (some ⟨g, off, none⟩) len cp) m cap) (hB : By base w0 (some ⟨g, off, none⟩) len cp bs) (cm : Cm) (hat : At bs m.at' (cmB cm)) (hin : m.at' + (cmB cm).length ≤ len) (hok : okC m cm) (hI : Inv m) (hs : m.seqs < 64) (hcap : cap = min len 256064) :
    Calls Try.prog 70 #[.pointer (some ⟨sb, 0, none⟩), .agg cmdA] w fun e w' => e = .returned (.bool true) ∧ SA base w0 w' sb c (.slice (some ⟨g, off, none⟩) len cp) (cmM m cm) cap := by
  have hpos := cmB_pos cm
  have hlt : m.at' < len := by omega
  obtain ⟨i1, i2, i3, i4, i5⟩ := hI
  cases cm with
  | beg st =>
    simp only [okC] at hok
    have h1 := At.app (l := [0, 9, 2]) hat
    have e : cmM m (.beg st) = { m with at' := m.at' + 3 + 8, start := st } := by simp [cmM, cmE, cmB, pl_len]
    rw [e]
    refine do_call h hB (x := 0) (hat 0 (by omega)) (by omega) hlt 79 rfl (enters_of Try.func79 (by kernel_rfl) rfl) _ (fun W hW => ?_)
    have hl : m.at' + 3 + 8 ≤ len := by simp [cmB, pl_len] at hin; omega
    exact extended_beg hW hB rfl hok.1 h1.1 h1.2 hl hok.2.1 hok.2.2
  | fil n =>
    simp only [okC] at hok
    have h1 := At.app (l := [4]) (k := ulB n) hat
    have e : cmM m (.fil n) = { m with at' := m.at' + 1 + (ulB n).length, row := { m.row with fi := n } } := by simp [cmM, cmE, cmB]; omega
    rw [e]
    refine do_call h hB (x := 4) (hat 0 (by omega)) (by omega) hlt 83 rfl (enters_of Try.func83 (by kernel_rfl) rfl) _ (fun W hW => ?_)
    have hl : m.at' + 1 + (ulB n).length ≤ len := by simp [cmB] at hin; omega
    exact setFile_ok hW hB hok h1.2 hl
  | col n =>
    simp only [okC] at hok
    have h1 := At.app (l := [5]) (k := ulB n) hat
    have e : cmM m (.col n) = { m with at' := m.at' + 1 + (ulB n).length, row := { m.row with co := n } } := by simp [cmM, cmE, cmB]; omega
    rw [e]
    refine do_call h hB (x := 5) (hat 0 (by omega)) (by omega) hlt 84 rfl (enters_of Try.func84 (by kernel_rfl) rfl) _ (fun W hW => ?_)
    have hl : m.at' + 1 + (ulB n).length ≤ len := by simp [cmB] at hin; omega
    exact setColumn_ok hW hB hok h1.2 hl
  | lin n =>
    simp only [okC] at hok
    have h1 := At.app (l := [3]) (k := sl n) hat
    have e : cmM m (.lin n) = { m with at' := m.at' + 1 + (sl n).length, row := { m.row with li := m.row.li + n } } := by simp [cmM, cmE, cmB]; omega
    rw [e]
    refine do_call h hB (x := 3) (hat 0 (by omega)) (by omega) hlt 82 rfl (enters_of Try.func82 (by kernel_rfl) rfl) _ (fun W hW => ?_)
    have hl : m.at' + 1 + (sl n).length ≤ len := by simp [cmB] at hin; omega
    exact advanceLine_ok hW hB hok.1 h1.2 hl i5.2 hok.2
  | mst =>
    simp only [okC] at hok
    have e : cmM m .mst = { m with at' := m.at' + 1, row := { m.row with at' := m.row.at' + 17 } } := by simp [cmM, cmE, cmB]
    rw [e]
    refine do_call h hB (x := 8) (hat 0 (by omega)) (by omega) hlt 86 rfl (enters_of Try.func86 (by kernel_rfl) rfl) _ (fun W hW => ?_)
    exact advanceMost_ok hW hok.1 hok.2
  | adv n =>
    simp only [okC] at hok
    have h1 := At.app (l := [2]) (k := ulB n) hat
    have e : cmM m (.adv n) = { m with at' := m.at' + 1 + (ulB n).length, row := { m.row with at' := m.row.at' + n } } := by simp [cmM, cmE, cmB]; omega
    rw [e]
    refine do_call h hB (x := 2) (hat 0 (by omega)) (by omega) hlt 81 rfl (enters_of Try.func81 (by kernel_rfl) rfl) _ (fun W hW => ?_)
    have hl : m.at' + 1 + (ulB n).length ≤ len := by simp [cmB] at hin; omega
    exact advance_ok hW hB hok.1 h1.2 hl hok.2.1 hok.2.2
  | spc a l =>
    simp only [okC] at hok
    obtain ⟨⟨k1, k2, k3, k4⟩, k5, k6, k7⟩ := hok
    have e : cmM m (.spc a l) = { m with at' := m.at' + 1, row := { m.row with at' := m.row.at' + a, li := m.row.li + l }, rows := m.rows + 1, evs := m.evs ++ [.row { m.row with at' := m.row.at' + a, li := m.row.li + l }] } := by simp [cmM, cmE, cmB]
    rw [e]
    have hx : ((spec a l).toNat : Int) = spec a l := by unfold spec at *; omega
    refine do_spc h hB (x := (spec a l).toNat) ?_ a l hx k1 ⟨k2, k3⟩ k4 hlt ⟨i5.1, k5.2⟩ ⟨i5.2, k6⟩ ⟨i3.1, k7⟩ ?_
    · rw [hx]; exact hat 0 (by omega)
    · omega
  | fin =>
    have e : cmM m .fin = { m with at' := m.at' + 3, seqs := m.seqs + 1, ended := true, evs := m.evs ++ [.fin m.start m.row.at'] } := by simp [cmM, cmE, cmB]
    rw [e]
    refine do_call h hB (x := 0) (hat 0 (by omega)) (by omega) hlt 79 rfl (enters_of Try.func79 (by kernel_rfl) rfl) _ (fun W hW => ?_)
    have hl : m.at' + 3 ≤ len := by simp [cmB] at hin; omega
    exact extended_fin hW hB rfl hat hl ⟨i4.1, hs⟩ (by dsimp only; omega)
end
end Go.Proofs.Ytbhdledlahbokaa
