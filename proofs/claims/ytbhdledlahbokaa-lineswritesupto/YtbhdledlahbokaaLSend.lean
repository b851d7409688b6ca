/- The state machine tells a row, and a sequence's end: a send into a channel with room, in a region that draws. -/
import Derived.Test.YtbhdledlahbokaaLStX
namespace Go.Proofs.Ytbhdledlahbokaa
open Go.ChangeShapes Go.WideShapes Go.ChangeAt Go.RowKit
set_option linter.unusedVariables false
set_option linter.unusedSimpArgs false

theorem load_chan {w : World} {p : Addr} {c : Nat} (hc : w.cell? p = some (.chan (some c))) : (loadVar 106 p).run Try.prog w = .ok (.chan (some c)) w := by
  simp [loadVar, isAgg, run_underlying Try.underlying106, go_sem, hc]
theorem load_rowL {w : World} {b o : Nat} {r : Lr} (h : w.rangeAt b o [.int .i64 r.at', .int .i64 r.fi, .int .i64 r.li, .int .i64 r.co]) : (loadVar 47 ⟨b, o, none⟩).run Try.prog w = .ok (.agg #[.int .i64 r.at', .int .i64 r.fi, .int .i64 r.li, .int .i64 r.co]) w :=
  run_loadVar_mid w b o _ _ _ h Try.underlying47 rfl (by rw [sizeRowL]; rfl)
section
variable {base : Nat × Nat} {w0 w : World} {sb c : Nat} {vb : Value} {m : Ms} {cap : Nat}
/-- What was sent lies in the channel. -/
theorem SA.sent (h : SA base w0 w sb c vb m cap) (e : Ev) : SA base w0 (w.setChan c cap ((m.evs.map evV).toArray.push (evV e)) false (m.evs.length + 1) 0 false) sb c vb { m with evs := m.evs ++ [e] } cap := by
  have hlt : c < w.heap.size := (Array.getElem?_eq_some_iff.1 h.ch).1
  refine ⟨h.bel.trans ⟨rfl, rfl, rfl, by simp [World.setChan], fun k hk _ hb => by simp only [World.setChan]; rw [Array.getElem?_setIfInBounds_ne (by rw [← h.cB]; exact Ne.symm hb)]⟩, ⟨?_⟩, ?_, h.sbB, h.cB⟩
  · have : (w.setChan c cap ((m.evs.map evV).toArray.push (evV e)) false (m.evs.length + 1) 0 false).heap[sb]? = w.heap[sb]? := by
      simp [World.setChan, Array.getElem?_setIfInBounds_ne (Ne.symm h.ne)]
    rw [this]; exact h.bk.hp
  · rw [Conc.heap_setChan _ _ _ _ _ _ _ _ hlt]
    simp
theorem keep_chan {cs : Array Value} {t : Nat} (h : Bk w sb t cs) (hne : sb ≠ c) (buf : Array Value) (b : Bool) (s r : Nat) : Bk (w.setChan c cap buf b s r false) sb t cs := by
  refine ⟨?_⟩
  have : (w.setChan c cap buf b s r false).heap[sb]? = w.heap[sb]? := by
    simp [World.setChan, Array.getElem?_setIfInBounds_ne (Ne.symm hne)]
  rw [this]; exact h.hp

set_option maxRecDepth 10000 in
set_option maxHeartbeats 1000000 in
theorem tellRow_ok (h : SA base w0 w sb c vb m cap) (hr : 0 ≤ m.rows ∧ m.rows < 4000) (hroom : m.evs.length < cap) :
    Calls Try.prog 80 #[.pointer (some ⟨sb, 0, none⟩)] w fun e w' => e = .returned (.bool true) ∧ SA base w0 w' sb c vb { m with rows := m.rows + 1, evs := m.evs ++ [.row m.row] } cap := by
  have hne : ¬ m.rows = 4000 := by omega
  have hw : wrap64 (m.rows + 1) = m.rows + 1 := by unfold wrap64; omega
  have d7 := h.c7
  have f7 := h.bk.fro 7
  have HN : Hid _ := ⟨h.set (m' := { m with rows := m.rows + 1 }) 7 (.int .i64 (m.rows + 1)) rfl rfl⟩
  clear h hr
  go_enter Try.func80, Try.ntmps80
  go_upto_region 4 with (fail)
  clear d7 f7
  generalize w.setCell ⟨sb, 7, none⟩ (.int .i64 (m.rows + 1)) = w1 at *
  have HD : Hid (SA base w0 w1.drew sb c vb { m with rows := m.rows + 1 } cap) := ⟨HN.out.belw (Below.refl _ _).drew⟩
  refine wp_region_sends (fun u => Bk u sb 108 (sC vb { m with rows := m.rows + 1 } c)) (by kernel_rfl) ?_
  generalize w1.drew = W at *
  have hS : Bk W sb 108 (sC vb { m with rows := m.rows + 1 } c) := HD.out.bk
  refine anyS_take (i := 0) (v := .pointer (some ⟨sb, 0, none⟩)) rfl (by kernel_rfl) (by kernel_rfl) (by kernel_rfl) (Or.inl ⟨by kernel_rfl, fun u hu => by kernel_rfl⟩) hS ?_
  simp only [Act.put, List.getElem_toArray, List.getElem_cons_succ, List.getElem_cons_zero, List.setIfInBounds_toArray, List.set_cons_zero, List.set_cons_succ]
  refine anyS_take (i := 1) (v := .pointer (some ⟨sb, 0, none⟩)) rfl (by kernel_rfl) (by kernel_rfl) (by kernel_rfl) (Or.inl ⟨by kernel_rfl, fun u hu => by kernel_rfl⟩) hS ?_
  simp only [Act.put, List.getElem_toArray, List.getElem_cons_succ, List.getElem_cons_zero, List.setIfInBounds_toArray, List.set_cons_zero, List.set_cons_succ]
  refine anyS_take (i := 2) (v := .pointer (some ⟨sb, 10, none⟩)) rfl (by kernel_rfl) (by kernel_rfl) (by kernel_rfl) (Or.inl ⟨by kernel_rfl, fun u hu => by kernel_rfl⟩) hS ?_
  simp only [Act.put, List.getElem_toArray, List.getElem_cons_succ, List.getElem_cons_zero, List.setIfInBounds_toArray, List.set_cons_zero, List.set_cons_succ]
  refine anyS_take (i := 3) (v := .chan (some c)) rfl (by kernel_rfl) (by kernel_rfl) (by kernel_rfl) (Or.inl ⟨by kernel_rfl, fun u hu => exec_loadV (t := 106) (p := ⟨sb, 10, none⟩) rfl (by kernel_rfl) (load_chan (hu.cell 10 rfl))⟩) hS ?_
  simp only [Act.put, List.getElem_toArray, List.getElem_cons_succ, List.getElem_cons_zero, List.setIfInBounds_toArray, List.set_cons_zero, List.set_cons_succ]
  refine anyS_take (i := 4) (v := .pointer (some ⟨sb, 0, none⟩)) rfl (by kernel_rfl) (by kernel_rfl) (by kernel_rfl) (Or.inl ⟨by kernel_rfl, fun u hu => by kernel_rfl⟩) hS ?_
  simp only [Act.put, List.getElem_toArray, List.getElem_cons_succ, List.getElem_cons_zero, List.setIfInBounds_toArray, List.set_cons_zero, List.set_cons_succ]
  refine anyS_take (i := 5) (v := .pointer (some ⟨sb, 0, none⟩)) rfl (by kernel_rfl) (by kernel_rfl) (by kernel_rfl) (Or.inl ⟨by kernel_rfl, fun u hu => by kernel_rfl⟩) hS ?_
  simp only [Act.put, List.getElem_toArray, List.getElem_cons_succ, List.getElem_cons_zero, List.setIfInBounds_toArray, List.set_cons_zero, List.set_cons_succ]
  refine anyS_take (i := 6) (v := .pointer (some ⟨sb, 2, none⟩)) rfl (by kernel_rfl) (by kernel_rfl) (by kernel_rfl) (Or.inl ⟨by kernel_rfl, fun u hu => by kernel_rfl⟩) hS ?_
  simp only [Act.put, List.getElem_toArray, List.getElem_cons_succ, List.getElem_cons_zero, List.setIfInBounds_toArray, List.set_cons_zero, List.set_cons_succ]
  refine anyS_take (i := 7) (v := .agg #[.int .i64 m.row.at', .int .i64 m.row.fi, .int .i64 m.row.li, .int .i64 m.row.co]) rfl (by kernel_rfl) (by kernel_rfl) (by kernel_rfl) (Or.inl ⟨by kernel_rfl, fun u hu => exec_loadV (t := 47) (p := ⟨sb, 2, none⟩) rfl (by kernel_rfl) (load_rowL (r := m.row) (hu.range 2 _ (fun j v hj => by rcases j with _ | _ | _ | _ | j <;> first | exact hj | simp at hj)))⟩) hS ?_
  simp only [Act.put, List.getElem_toArray, List.getElem_cons_succ, List.getElem_cons_zero, List.setIfInBounds_toArray, List.set_cons_zero, List.set_cons_succ]
  refine anyS_take (i := 8) (v := evV (.row m.row)) rfl (by kernel_rfl) (by kernel_rfl) (by kernel_rfl) (Or.inl ⟨by kernel_rfl, fun u hu => by kernel_rfl⟩) hS ?_
  simp only [Act.put, List.getElem_toArray, List.getElem_cons_succ, List.getElem_cons_zero, List.setIfInBounds_toArray, List.set_cons_zero, List.set_cons_succ]
  refine anyS_send (i := 9) (c := c) (cap := cap) (s := m.evs.length) (r := 0) (buf := (m.evs.map evV).toArray) (v := evV (.row m.row)) (z := .tuple #[]) (by kernel_rfl) rfl hS ⟨by kernel_rfl, by kernel_rfl, HD.out.ch, by simpa using hroom⟩ (keep_chan hS HD.out.ne _ _ _ _) (by kernel_rfl) ?_
  simp only [Act.put, List.getElem_toArray, List.getElem_cons_succ, List.getElem_cons_zero, List.setIfInBounds_toArray, List.set_cons_zero, List.set_cons_succ]
  have HF : Hid _ := ⟨HD.out.sent (.row m.row)⟩
  dsimp only at HF
  generalize W.setChan c cap ((m.evs.map evV).toArray.push (evV (.row m.row))) false (m.evs.length + 1) 0 false = w2 at *
  go_wp2
  go_ret
  exact ⟨rfl, HF.out⟩

set_option maxRecDepth 10000 in
set_option maxHeartbeats 1000000 in
theorem end_ok (h : SA base w0 w sb c vb m cap) (hr : 0 ≤ m.seqs ∧ m.seqs < 64) (hroom : m.evs.length < cap) :
    Calls Try.prog 91 #[.pointer (some ⟨sb, 0, none⟩)] w fun e w' => e = .returned (.bool true) ∧ SA base w0 w' sb c vb { m with seqs := m.seqs + 1, ended := true, evs := m.evs ++ [.fin m.start m.row.at'] } cap := by
  have hw : wrap64 (m.seqs + 1) = m.seqs + 1 := by unfold wrap64; omega
  have d8 := h.c8
  have f8 := h.bk.fro 8
  have HN : Hid _ := ⟨h.set (m' := { m with seqs := m.seqs + 1 }) 8 (.int .i64 (m.seqs + 1)) rfl rfl⟩
  clear h hr
  go_enter Try.func91, Try.ntmps91
  go_upto_region 2 with (fail)
  clear d8 f8
  generalize w.setCell ⟨sb, 8, none⟩ (.int .i64 (m.seqs + 1)) = w1 at *
  have d9 := HN.out.c9
  have f9 := HN.out.bk.fro 9
  have HN2 : Hid _ := ⟨HN.out.set (m' := { m with seqs := m.seqs + 1, ended := true }) 9 (.bool true) rfl rfl⟩
  go_upto_region 3 with (fail)
  clear d9 f9
  generalize w1.setCell ⟨sb, 9, none⟩ (.bool true) = w2 at *
  have HD : Hid (SA base w0 w2.drew sb c vb { m with seqs := m.seqs + 1, ended := true } cap) := ⟨HN2.out.belw (Below.refl _ _).drew⟩
  refine wp_region_sends (fun u => Bk u sb 108 (sC vb { m with seqs := m.seqs + 1, ended := true } c)) (by kernel_rfl) ?_
  generalize w2.drew = W at *
  have hS : Bk W sb 108 (sC vb { m with seqs := m.seqs + 1, ended := true } c) := HD.out.bk
  refine anyS_take (i := 0) (v := .pointer (some ⟨sb, 0, none⟩)) rfl (by kernel_rfl) (by kernel_rfl) (by kernel_rfl) (Or.inl ⟨by kernel_rfl, fun u hu => by kernel_rfl⟩) hS ?_
  simp only [Act.put, List.getElem_toArray, List.getElem_cons_succ, List.getElem_cons_zero, List.setIfInBounds_toArray, List.set_cons_zero, List.set_cons_succ]
  refine anyS_take (i := 1) (v := .pointer (some ⟨sb, 0, none⟩)) rfl (by kernel_rfl) (by kernel_rfl) (by kernel_rfl) (Or.inl ⟨by kernel_rfl, fun u hu => by kernel_rfl⟩) hS ?_
  simp only [Act.put, List.getElem_toArray, List.getElem_cons_succ, List.getElem_cons_zero, List.setIfInBounds_toArray, List.set_cons_zero, List.set_cons_succ]
  refine anyS_take (i := 2) (v := .pointer (some ⟨sb, 10, none⟩)) rfl (by kernel_rfl) (by kernel_rfl) (by kernel_rfl) (Or.inl ⟨by kernel_rfl, fun u hu => by kernel_rfl⟩) hS ?_
  simp only [Act.put, List.getElem_toArray, List.getElem_cons_succ, List.getElem_cons_zero, List.setIfInBounds_toArray, List.set_cons_zero, List.set_cons_succ]
  refine anyS_take (i := 3) (v := .chan (some c)) rfl (by kernel_rfl) (by kernel_rfl) (by kernel_rfl) (Or.inl ⟨by kernel_rfl, fun u hu => exec_loadV (t := 106) (p := ⟨sb, 10, none⟩) rfl (by kernel_rfl) (load_chan (hu.cell 10 rfl))⟩) hS ?_
  simp only [Act.put, List.getElem_toArray, List.getElem_cons_succ, List.getElem_cons_zero, List.setIfInBounds_toArray, List.set_cons_zero, List.set_cons_succ]
  refine anyS_take (i := 4) (v := .pointer (some ⟨sb, 0, none⟩)) rfl (by kernel_rfl) (by kernel_rfl) (by kernel_rfl) (Or.inl ⟨by kernel_rfl, fun u hu => by kernel_rfl⟩) hS ?_
  simp only [Act.put, List.getElem_toArray, List.getElem_cons_succ, List.getElem_cons_zero, List.setIfInBounds_toArray, List.set_cons_zero, List.set_cons_succ]
  refine anyS_take (i := 5) (v := .pointer (some ⟨sb, 0, none⟩)) rfl (by kernel_rfl) (by kernel_rfl) (by kernel_rfl) (Or.inl ⟨by kernel_rfl, fun u hu => by kernel_rfl⟩) hS ?_
  simp only [Act.put, List.getElem_toArray, List.getElem_cons_succ, List.getElem_cons_zero, List.setIfInBounds_toArray, List.set_cons_zero, List.set_cons_succ]
  refine anyS_take (i := 6) (v := .pointer (some ⟨sb, 6, none⟩)) rfl (by kernel_rfl) (by kernel_rfl) (by kernel_rfl) (Or.inl ⟨by kernel_rfl, fun u hu => by kernel_rfl⟩) hS ?_
  simp only [Act.put, List.getElem_toArray, List.getElem_cons_succ, List.getElem_cons_zero, List.setIfInBounds_toArray, List.set_cons_zero, List.set_cons_succ]
  refine anyS_take (i := 7) (v := .int .i64 m.start) rfl (by kernel_rfl) (by kernel_rfl) (by kernel_rfl) (Or.inl ⟨by kernel_rfl, fun u hu => exec_loadV (t := 3) (p := ⟨sb, 6, none⟩) rfl (by kernel_rfl) (load_i64 (hu.cell 6 rfl))⟩) hS ?_
  simp only [Act.put, List.getElem_toArray, List.getElem_cons_succ, List.getElem_cons_zero, List.setIfInBounds_toArray, List.set_cons_zero, List.set_cons_succ]
  refine anyS_take (i := 8) (v := .pointer (some ⟨sb, 0, none⟩)) rfl (by kernel_rfl) (by kernel_rfl) (by kernel_rfl) (Or.inl ⟨by kernel_rfl, fun u hu => by kernel_rfl⟩) hS ?_
  simp only [Act.put, List.getElem_toArray, List.getElem_cons_succ, List.getElem_cons_zero, List.setIfInBounds_toArray, List.set_cons_zero, List.set_cons_succ]
  refine anyS_take (i := 9) (v := .pointer (some ⟨sb, 0, none⟩)) rfl (by kernel_rfl) (by kernel_rfl) (by kernel_rfl) (Or.inl ⟨by kernel_rfl, fun u hu => by kernel_rfl⟩) hS ?_
  simp only [Act.put, List.getElem_toArray, List.getElem_cons_succ, List.getElem_cons_zero, List.setIfInBounds_toArray, List.set_cons_zero, List.set_cons_succ]
  refine anyS_take (i := 10) (v := .pointer (some ⟨sb, 2, none⟩)) rfl (by kernel_rfl) (by kernel_rfl) (by kernel_rfl) (Or.inl ⟨by kernel_rfl, fun u hu => by kernel_rfl⟩) hS ?_
  simp only [Act.put, List.getElem_toArray, List.getElem_cons_succ, List.getElem_cons_zero, List.setIfInBounds_toArray, List.set_cons_zero, List.set_cons_succ]
  refine anyS_take (i := 11) (v := .pointer (some ⟨sb, 2, none⟩)) rfl (by kernel_rfl) (by kernel_rfl) (by kernel_rfl) (Or.inl ⟨by kernel_rfl, fun u hu => by kernel_rfl⟩) hS ?_
  simp only [Act.put, List.getElem_toArray, List.getElem_cons_succ, List.getElem_cons_zero, List.setIfInBounds_toArray, List.set_cons_zero, List.set_cons_succ]
  refine anyS_take (i := 12) (v := .int .i64 m.row.at') rfl (by kernel_rfl) (by kernel_rfl) (by kernel_rfl) (Or.inl ⟨by kernel_rfl, fun u hu => exec_loadV (t := 3) (p := ⟨sb, 2, none⟩) rfl (by kernel_rfl) (load_i64 (hu.cell 2 rfl))⟩) hS ?_
  simp only [Act.put, List.getElem_toArray, List.getElem_cons_succ, List.getElem_cons_zero, List.setIfInBounds_toArray, List.set_cons_zero, List.set_cons_succ]
  refine anyS_take (i := 13) (v := evV (.fin m.start m.row.at')) rfl (by kernel_rfl) (by kernel_rfl) (by kernel_rfl) (Or.inl ⟨by kernel_rfl, fun u hu => by kernel_rfl⟩) hS ?_
  simp only [Act.put, List.getElem_toArray, List.getElem_cons_succ, List.getElem_cons_zero, List.setIfInBounds_toArray, List.set_cons_zero, List.set_cons_succ]
  refine anyS_send (i := 14) (c := c) (cap := cap) (s := m.evs.length) (r := 0) (buf := (m.evs.map evV).toArray) (v := evV (.fin m.start m.row.at')) (z := .tuple #[]) (by kernel_rfl) rfl hS ⟨by kernel_rfl, by kernel_rfl, HD.out.ch, by simpa using hroom⟩ (keep_chan hS HD.out.ne _ _ _ _) (by kernel_rfl) ?_
  simp only [Act.put, List.getElem_toArray, List.getElem_cons_succ, List.getElem_cons_zero, List.setIfInBounds_toArray, List.set_cons_zero, List.set_cons_succ]
  have HF : Hid _ := ⟨HD.out.sent (.fin m.start m.row.at')⟩
  dsimp only at HF
  generalize W.setChan c cap ((m.evs.map evV).toArray.push (evV (.fin m.start m.row.at'))) false (m.evs.length + 1) 0 false = w3 at *
  go_wp2
  go_ret
  exact ⟨rfl, HF.out⟩
end
end Go.Proofs.Ytbhdledlahbokaa
