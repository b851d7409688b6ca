/- tell. -/
import Derived.Test.YtojiomkinhnodaaYSegs
namespace Go.Proofs.Ytojiomkinhnodaa
open Go.ChangeShapes Go.WideShapes Go.ChangeAt Go.RowKit Go.Maps
set_option linter.unusedVariables false
set_option linter.unusedSimpArgs false

/-- The thread-local block: where, size, alignment, where FS points. -/
structure Tn where
  a : Int
  s : Int
  l : Int
  p : Int
def tn1 (t : Tn) (s : Sg) : Tn := if s.ty == 7 then ⟨s.ad, s.me, s.al, s.ad + upA s.me s.al⟩ else t
def tnL (l : List Sg) : Tn := l.foldl tn1 ⟨0, 0, 0, 0⟩
def SgB (l : List Sg) : Prop := ∀ s ∈ l, s.ty = 7 → 0 ≤ s.ad ∧ s.ad ≤ 16777216 ∧ 0 ≤ s.me ∧ s.me ≤ 16777216 ∧ ∃ j : Nat, j ≤ 12 ∧ s.al = 2 ^ j
abbrev mapC (k : Wk) (en : Int) (sa : Option Addr) (n sc : Nat) (t : Tn) : Array Value := #[.slice k.oa k.on' k.oc, .slice k.va k.vn k.vc, .slice sa n sc, .int .i64 t.a, .int .i64 t.s, .int .i64 t.l, .int .i64 t.p, .int .i64 en]
theorem sizeM : (Try.prog.info? 28).map (·.size) = some 8 := by kernel_rfl

theorem load_at {w : World} {p : Addr} {a : Option Addr} {n c : Nat} (hc : w.cell? p = some (.slice a n c)) : (loadVar 25 p).run Try.prog w = .ok (.slice a n c) w := by
  simp [loadVar, isAgg, run_underlying Try.underlying25, go_sem, hc]
theorem load_i {w : World} {p : Addr} {x : Int} (hc : w.cell? p = some (.int .i64 x)) : (loadVar 3 p).run Try.prog w = .ok (.int .i64 x) w := by
  simp [loadVar, isAgg, run_underlying Try.underlying3, go_sem, hc]

theorem exec_allocM {o : Oper} {a : Act} (w : World) (ho : o.op = .alloc 28) : (execOp a.eval o).run Try.prog w = .ok (.value (.pointer (some ⟨w.heap.size, 0, none⟩))) (w.alloc (.cells #[.slice none 0 0, .slice none 0 0, .slice none 0 0, .int .i64 0, .int .i64 0, .int .i64 0, .int .i64 0, .int .i64 0] 28)) := by
  unfold execOp
  rw [ho]
  kernel_rfl

theorem own_setR {w : World} {base e s n M : Nat} {v : Value} {xs : List Value} (h : w.ownsRow base e s v n xs) (hn : ∀ q, v.ownBlock = some q → q ≠ M) (V : Array Value) : (w.setRow M V).ownsRow base e s v n xs :=
  (show Turn (fun q => q = M) w (w.setRow M V) from ⟨rfl, rfl, rfl, by simp, fun k _ hk => setRow_other w M k _ hk⟩).row h hn

set_option maxHeartbeats 16000000 in
set_option maxRecDepth 20000 in
theorem tell_any {w wi : World} {B : Nat} {k : Wk} {U : List So} {en : Int} {f : Nat → Nat → Int} {outs : List Ou} (h : PW w wi B k U en f outs) (hb : OuB outs) (hn : outs.length ≤ 2097152) (hs : SgB (segsL outs)) :
    Calls Try.prog 22 #[.pointer (some ⟨k.p, 0, none⟩)] wi fun e w' => ∃ sa sc, e = .returned (.agg (mapC k en sa (segsL outs).length sc (tnL (segsL outs)))) ∧ OwnR 57 7 encG w' wi.heap.size (.slice sa (segsL outs).length sc) (segsL outs) ∧ Below wi.heap.size wi w' := by
  obtain ⟨P, hP⟩ : ∃ P, wi.heap.size = P := ⟨_, rfl⟩
  obtain ⟨oa, oc, hv, ho⟩ := outs_of h.o
  injection hv with e1 e2 e3
  obtain ⟨w1, hw1⟩ : ∃ w1, wi.alloc (.cells #[.slice none 0 0, .slice none 0 0, .slice none 0 0, .int .i64 0, .int .i64 0, .int .i64 0, .int .i64 0, .int .i64 0] 28) = w1 := ⟨_, rfl⟩
  have HB1 : Hid (Below P wi w1) := ⟨by rw [← hw1, ← hP]; exact (Below.refl _ _).alloc (Nat.le_refl _) _⟩
  have HKP : Hid (Bk w1 P 28 #[.slice none 0 0, .slice none 0 0, .slice none 0 0, .int .i64 0, .int .i64 0, .int .i64 0, .int .i64 0, .int .i64 0]) := ⟨by rw [← hw1, ← hP]; exact Bk.new _ _ _⟩
  have HZ1 : Hid (w1.heap.size = P + 1) := ⟨by rw [← hw1, ← hP]; simp⟩
  have hkk : Bk w1 k.p 95 (k.cells en) := h.kk.bel HB1.out (by rw [← hP]; exact h.kk.lt)
  have HSK : Hid (∀ W, Below (P + 1) w1 W → W.cell? ⟨k.p, 2, none⟩ = some (.slice k.va k.vn k.vc) ∧ W.cell? ⟨k.p, 3, none⟩ = some (.slice k.oa k.on' k.oc) ∧ W.cell? ⟨k.p, 4, none⟩ = some (.int .i64 en)) := ⟨fun W hW => by
    have := hkk.bel hW (by rw [← HZ1.out]; exact hkk.lt)
    exact ⟨this.cell 2 rfl, this.cell 3 rfl, this.cell 4 rfl⟩⟩
  have HSG : Hid (∀ W, Below (P + 1) w1 W → Calls Try.prog 41 #[.slice k.oa k.on' k.oc] W fun e w' => ∃ ga gc, e = .returned (.slice ga (segsL outs).length gc) ∧ OwnR 57 7 encG w' W.heap.size (.slice ga (segsL outs).length gc) (segsL outs) ∧ Below W.heap.size W w') := ⟨fun W hW => by
    rw [e1, e2, e3]
    exact segments_any oa oc outs W hb hn (ho.below (HB1.out.trans (hW.mono (by omega))) (by omega))⟩
  have HSB : Hid _ := ⟨hs⟩
  clear hkk ho hb hs e1 e2 e3
  go_enter Try.func22, Try.ntmps22
  go_upto_region 1 with (fail)
  clear hw1
  have p2 : w1.drew.cell? ⟨k.p, 2, none⟩ = some (.slice k.va k.vn k.vc) := (HSK.out w1 (Below.refl _ _)).1
  have p3 : w1.drew.cell? ⟨k.p, 3, none⟩ = some (.slice k.oa k.on' k.oc) := (HSK.out w1 (Below.refl _ _)).2.1
  have p4 : w1.drew.cell? ⟨k.p, 4, none⟩ = some (.int .i64 en) := (HSK.out w1 (Below.refl _ _)).2.2
  go_cut [3] from 6 to 23 (fun s3 wx => ∃ M sa sc, s3 = .pointer (some ⟨M, 0, none⟩) ∧ Hid (P + 1 ≤ M ∧ Below (P + 1) w1 wx ∧ Bk wx M 28 (mapC k en sa (segsL outs).length sc ⟨0, 0, 0, 0⟩) ∧ OwnR 57 7 encG wx (P + 1) (.slice sa (segsL outs).length sc) (segsL outs) ∧ ∀ q, Value.ownBlock (.slice sa (segsL outs).length sc) = some q → q ≠ M))
  case first =>
    refine wp_region_held_drew (S := fun x => x.cell? ⟨k.p, 2, none⟩ = some (.slice k.va k.vn k.vc) ∧ x.cell? ⟨k.p, 3, none⟩ = some (.slice k.oa k.on' k.oc) ∧ x.cell? ⟨k.p, 4, none⟩ = some (.int .i64 en)) (by kernel_rfl) ⟨p2, p3, p4⟩ (fun hS => ?_)
    refine wpAnyH_take (i := 0) (v := .pointer (some ⟨k.p, 0, none⟩)) rfl (by kernel_rfl) (by kernel_rfl) (by kernel_rfl) (fun _ _ _ h => h) (Or.inl ⟨by kernel_rfl, fun u hu => by kernel_rfl⟩) hS ?_
    try simp only [Act.put, List.getElem_toArray, List.getElem_cons_succ, List.getElem_cons_zero, List.setIfInBounds_toArray, List.set_cons_zero, List.set_cons_succ]
    refine wpAnyH_take (i := 1) (v := .pointer (some ⟨k.p, 0, none⟩)) rfl (by kernel_rfl) (by kernel_rfl) (by kernel_rfl) (fun _ _ _ h => h) (Or.inl ⟨by kernel_rfl, fun u hu => by kernel_rfl⟩) hS ?_
    try simp only [Act.put, List.getElem_toArray, List.getElem_cons_succ, List.getElem_cons_zero, List.setIfInBounds_toArray, List.set_cons_zero, List.set_cons_succ]
    refine wpAnyH_take (i := 2) (v := .pointer (some ⟨k.p, 3, none⟩)) rfl (by kernel_rfl) (by kernel_rfl) (by kernel_rfl) (fun _ _ _ h => h) (Or.inl ⟨by kernel_rfl, fun u hu => by kernel_rfl⟩) hS ?_
    try simp only [Act.put, List.getElem_toArray, List.getElem_cons_succ, List.getElem_cons_zero, List.setIfInBounds_toArray, List.set_cons_zero, List.set_cons_succ]
    refine wpAnyH_take (i := 3) (v := .slice k.oa k.on' k.oc) rfl (by kernel_rfl) (by kernel_rfl) (by kernel_rfl) (fun _ _ _ h => h) (Or.inl ⟨by kernel_rfl, fun u hu => exec_loadV (t := 24) (p := ⟨k.p, 3, none⟩) rfl (by kernel_rfl) (load_outs hu.2.1)⟩) hS ?_
    try simp only [Act.put, List.getElem_toArray, List.getElem_cons_succ, List.getElem_cons_zero, List.setIfInBounds_toArray, List.set_cons_zero, List.set_cons_succ]
    refine wpAnyH_take (i := 4) (v := .pointer (some ⟨k.p, 0, none⟩)) rfl (by kernel_rfl) (by kernel_rfl) (by kernel_rfl) (fun _ _ _ h => h) (Or.inl ⟨by kernel_rfl, fun u hu => by kernel_rfl⟩) hS ?_
    try simp only [Act.put, List.getElem_toArray, List.getElem_cons_succ, List.getElem_cons_zero, List.setIfInBounds_toArray, List.set_cons_zero, List.set_cons_succ]
    refine wpAnyH_take (i := 5) (v := .pointer (some ⟨k.p, 0, none⟩)) rfl (by kernel_rfl) (by kernel_rfl) (by kernel_rfl) (fun _ _ _ h => h) (Or.inl ⟨by kernel_rfl, fun u hu => by kernel_rfl⟩) hS ?_
    try simp only [Act.put, List.getElem_toArray, List.getElem_cons_succ, List.getElem_cons_zero, List.setIfInBounds_toArray, List.set_cons_zero, List.set_cons_succ]
    refine wpAnyH_take (i := 6) (v := .pointer (some ⟨k.p, 2, none⟩)) rfl (by kernel_rfl) (by kernel_rfl) (by kernel_rfl) (fun _ _ _ h => h) (Or.inl ⟨by kernel_rfl, fun u hu => by kernel_rfl⟩) hS ?_
    try simp only [Act.put, List.getElem_toArray, List.getElem_cons_succ, List.getElem_cons_zero, List.setIfInBounds_toArray, List.set_cons_zero, List.set_cons_succ]
    refine wpAnyH_take (i := 7) (v := .slice k.va k.vn k.vc) rfl (by kernel_rfl) (by kernel_rfl) (by kernel_rfl) (fun _ _ _ h => h) (Or.inl ⟨by kernel_rfl, fun u hu => exec_loadV (t := 25) (p := ⟨k.p, 2, none⟩) rfl (by kernel_rfl) (load_at hu.1)⟩) hS ?_
    try simp only [Act.put, List.getElem_toArray, List.getElem_cons_succ, List.getElem_cons_zero, List.setIfInBounds_toArray, List.set_cons_zero, List.set_cons_succ]
    refine wpAnyH_take (i := 8) (v := .pointer (some ⟨k.p, 0, none⟩)) rfl (by kernel_rfl) (by kernel_rfl) (by kernel_rfl) (fun _ _ _ h => h) (Or.inl ⟨by kernel_rfl, fun u hu => by kernel_rfl⟩) hS ?_
    try simp only [Act.put, List.getElem_toArray, List.getElem_cons_succ, List.getElem_cons_zero, List.setIfInBounds_toArray, List.set_cons_zero, List.set_cons_succ]
    refine wpAnyH_take (i := 9) (v := .pointer (some ⟨k.p, 0, none⟩)) rfl (by kernel_rfl) (by kernel_rfl) (by kernel_rfl) (fun _ _ _ h => h) (Or.inl ⟨by kernel_rfl, fun u hu => by kernel_rfl⟩) hS ?_
    try simp only [Act.put, List.getElem_toArray, List.getElem_cons_succ, List.getElem_cons_zero, List.setIfInBounds_toArray, List.set_cons_zero, List.set_cons_succ]
    refine wpAnyH_take (i := 10) (v := .pointer (some ⟨k.p, 3, none⟩)) rfl (by kernel_rfl) (by kernel_rfl) (by kernel_rfl) (fun _ _ _ h => h) (Or.inl ⟨by kernel_rfl, fun u hu => by kernel_rfl⟩) hS ?_
    try simp only [Act.put, List.getElem_toArray, List.getElem_cons_succ, List.getElem_cons_zero, List.setIfInBounds_toArray, List.set_cons_zero, List.set_cons_succ]
    refine wpAnyH_take (i := 11) (v := .slice k.oa k.on' k.oc) rfl (by kernel_rfl) (by kernel_rfl) (by kernel_rfl) (fun _ _ _ h => h) (Or.inl ⟨by kernel_rfl, fun u hu => exec_loadV (t := 24) (p := ⟨k.p, 3, none⟩) rfl (by kernel_rfl) (load_outs hu.2.1)⟩) hS ?_
    try simp only [Act.put, List.getElem_toArray, List.getElem_cons_succ, List.getElem_cons_zero, List.setIfInBounds_toArray, List.set_cons_zero, List.set_cons_succ]
    refine wpAnyH_take (i := 13) (v := .pointer (some ⟨k.p, 0, none⟩)) rfl (by kernel_rfl) (by kernel_rfl) (by kernel_rfl) (fun _ _ _ h => h) (Or.inl ⟨by kernel_rfl, fun u hu => by kernel_rfl⟩) hS ?_
    try simp only [Act.put, List.getElem_toArray, List.getElem_cons_succ, List.getElem_cons_zero, List.setIfInBounds_toArray, List.set_cons_zero, List.set_cons_succ]
    refine wpAnyH_take (i := 14) (v := .pointer (some ⟨k.p, 0, none⟩)) rfl (by kernel_rfl) (by kernel_rfl) (by kernel_rfl) (fun _ _ _ h => h) (Or.inl ⟨by kernel_rfl, fun u hu => by kernel_rfl⟩) hS ?_
    try simp only [Act.put, List.getElem_toArray, List.getElem_cons_succ, List.getElem_cons_zero, List.setIfInBounds_toArray, List.set_cons_zero, List.set_cons_succ]
    refine wpAnyH_take (i := 15) (v := .pointer (some ⟨k.p, 4, none⟩)) rfl (by kernel_rfl) (by kernel_rfl) (by kernel_rfl) (fun _ _ _ h => h) (Or.inl ⟨by kernel_rfl, fun u hu => by kernel_rfl⟩) hS ?_
    try simp only [Act.put, List.getElem_toArray, List.getElem_cons_succ, List.getElem_cons_zero, List.setIfInBounds_toArray, List.set_cons_zero, List.set_cons_succ]
    refine wpAnyH_take (i := 16) (v := .int .i64 en) rfl (by kernel_rfl) (by kernel_rfl) (by kernel_rfl) (fun _ _ _ h => h) (Or.inl ⟨by kernel_rfl, fun u hu => exec_loadV (t := 3) (p := ⟨k.p, 4, none⟩) rfl (by kernel_rfl) (load_i hu.2.2)⟩) hS ?_
    try simp only [Act.put, List.getElem_toArray, List.getElem_cons_succ, List.getElem_cons_zero, List.setIfInBounds_toArray, List.set_cons_zero, List.set_cons_succ]
    refine wpAnyH_ready (rs := [12, 18]) (by kernel_rfl) (by simp) ?_
    refine AllReadyH.cons rfl (fun K hK => ?_) (AllReadyH.cons rfl (fun K hK => ?_) AllReadyH.nil)
    · simp only [List.getElem_toArray, List.getElem_cons_succ, List.getElem_cons_zero]
      go_simp
      go_at_call 41
      refine (HSG.out _ (Below.refl _ _).drew).mono ?_
      rintro e w8 ⟨sa, sc, rfl, hr8, hb8⟩
      have HR8 : Hid _ := ⟨hr8⟩
      have HC8 : Hid _ := ⟨hb8⟩
      have HB8 : Hid (Below (P + 1) w1 w8) := ⟨bt2 HZ1.out (Below.refl _ _).drew hb8⟩
      clear hr8 hb8
      go_wp2_with fail
      refine hK.out _ _ (HSK.out _ HB8.out) (fun hS => ?_)
      clear hK
      try simp only [Act.put, List.getElem_toArray, List.getElem_cons_succ, List.getElem_cons_zero, List.setIfInBounds_toArray, List.set_cons_zero, List.set_cons_succ]
      refine wpAnyH_take (i := 17) (v := .agg #[.slice k.oa k.on' k.oc, .slice k.va k.vn k.vc, .slice sa (segsL outs).length sc, .int .i64 0, .int .i64 0, .int .i64 0, .int .i64 0, .int .i64 en]) rfl (by kernel_rfl) (by kernel_rfl) (by kernel_rfl) (fun _ _ _ h => h) (Or.inl ⟨by kernel_rfl, fun u hu => by kernel_rfl⟩) hS ?_
      try simp only [Act.put, List.getElem_toArray, List.getElem_cons_succ, List.getElem_cons_zero, List.setIfInBounds_toArray, List.set_cons_zero, List.set_cons_succ]
      refine wpAnyH_ready (rs := [18]) (by kernel_rfl) (by simp) ?_
      refine AllReadyH.cons rfl (fun K hK => ?_) AllReadyH.nil
      simp only [List.getElem_toArray, List.getElem_cons_succ, List.getElem_cons_zero]
      refine wp_if (by kernel_rfl) ?_
      refine wp_val (v := .pointer (some ⟨w8.heap.size, 0, none⟩)) (w' := w8.alloc (.cells #[.slice none 0 0, .slice none 0 0, .slice none 0 0, .int .i64 0, .int .i64 0, .int .i64 0, .int .i64 0, .int .i64 0] 28)) (exec_allocM _ rfl) ?_
      refine hK.out _ _ (HSK.out _ (HB8.out.alloc (by have := HB8.out.size; have := HZ1.out; omega) _)) (fun hS => ?_)
      clear hK
      try simp only [Act.put, List.getElem_toArray, List.getElem_cons_succ, List.getElem_cons_zero, List.setIfInBounds_toArray, List.set_cons_zero, List.set_cons_succ]
      refine wpAnyH_ready (rs := [19]) (by kernel_rfl) (by simp) ?_
      refine AllReadyH.cons rfl (fun K hK => ?_) AllReadyH.nil
      simp only [List.getElem_toArray, List.getElem_cons_succ, List.getElem_cons_zero]
      refine wp_if (by kernel_rfl) ?_
      refine wp_part (g := w8.heap.size) (off := 0) (t := 28) (val := .agg #[.slice k.oa k.on' k.oc, .slice k.va k.vn k.vc, .slice sa (segsL outs).length sc, .int .i64 0, .int .i64 0, .int .i64 0, .int .i64 0, .int .i64 en]) (old := #[.slice none 0 0, .slice none 0 0, .slice none 0 0, .int .i64 0, .int .i64 0, .int .i64 0, .int .i64 0, .int .i64 0]) (new := #[.slice k.oa k.on' k.oc, .slice k.va k.vn k.vc, .slice sa (segsL outs).length sc, .int .i64 0, .int .i64 0, .int .i64 0, .int .i64 0, .int .i64 en]) rfl (by kernel_rfl) (by kernel_rfl) (Bk.new w8 _ _) (by kernel_rfl) (Nat.le_of_ble_eq_true (by kernel_rfl)) (oneAll (by kernel_rfl)) (by kernel_rfl) ?_
      refine hK.out _ _ (HSK.out _ (bel_setR (HB8.out.alloc (by have := HB8.out.size; have := HZ1.out; omega) _) w8.heap.size (by have := HB8.out.size; have := HZ1.out; omega) _)) (fun hS => ?_)
      clear hK
      try simp only [Act.put, List.getElem_toArray, List.getElem_cons_succ, List.getElem_cons_zero, List.setIfInBounds_toArray, List.set_cons_zero, List.set_cons_succ]
      refine wpAnyH_done (by kernel_rfl) ?_ _
      have hz8 : P + 1 ≤ w8.heap.size := by have := HB8.out.size; have := HZ1.out; omega
      have HEND : Hid (P + 1 ≤ w8.heap.size ∧ Below (P + 1) w1 ((w8.alloc (.cells #[.slice none 0 0, .slice none 0 0, .slice none 0 0, .int .i64 0, .int .i64 0, .int .i64 0, .int .i64 0, .int .i64 0] 28)).setRow w8.heap.size #[.slice k.oa k.on' k.oc, .slice k.va k.vn k.vc, .slice sa (segsL outs).length sc, .int .i64 0, .int .i64 0, .int .i64 0, .int .i64 0, .int .i64 en]) ∧ Bk ((w8.alloc (.cells #[.slice none 0 0, .slice none 0 0, .slice none 0 0, .int .i64 0, .int .i64 0, .int .i64 0, .int .i64 0, .int .i64 0] 28)).setRow w8.heap.size #[.slice k.oa k.on' k.oc, .slice k.va k.vn k.vc, .slice sa (segsL outs).length sc, .int .i64 0, .int .i64 0, .int .i64 0, .int .i64 0, .int .i64 en]) w8.heap.size 28 (mapC k en sa (segsL outs).length sc ⟨0, 0, 0, 0⟩) ∧ OwnR 57 7 encG ((w8.alloc (.cells #[.slice none 0 0, .slice none 0 0, .slice none 0 0, .int .i64 0, .int .i64 0, .int .i64 0, .int .i64 0, .int .i64 0] 28)).setRow w8.heap.size #[.slice k.oa k.on' k.oc, .slice k.va k.vn k.vc, .slice sa (segsL outs).length sc, .int .i64 0, .int .i64 0, .int .i64 0, .int .i64 0, .int .i64 en]) (P + 1) (.slice sa (segsL outs).length sc) (segsL outs) ∧ ∀ q, Value.ownBlock (.slice sa (segsL outs).length sc) = some q → q ≠ w8.heap.size) := ⟨hz8, bel_setR (HB8.out.alloc hz8 _) _ hz8 _, (Bk.new w8 _ _).setR _, by
        have h1 := World.ownsRow.alloc HR8.out (.cells #[.slice none 0 0, .slice none 0 0, .slice none 0 0, .int .i64 0, .int .i64 0, .int .i64 0, .int .i64 0, .int .i64 0] 28)
        have h2 := own_setR (M := w8.heap.size) h1 (fun q hq => by have := (own_cells2 HR8.out q hq).2.1; omega) #[.slice k.oa k.on' k.oc, .slice k.va k.vn k.vc, .slice sa (segsL outs).length sc, .int .i64 0, .int .i64 0, .int .i64 0, .int .i64 0, .int .i64 en]
        exact ownR_base2 h2 (Nat.le_of_eq HZ1.out.symm), fun q hq => by have := (own_cells2 HR8.out q hq).2.1; omega⟩
      go_wp2
      go_meet
      exact ⟨_, _, _, rfl, HEND⟩
    · simp only [List.getElem_toArray, List.getElem_cons_succ, List.getElem_cons_zero]
      refine wp_if (by kernel_rfl) ?_
      refine wp_val (v := .pointer (some ⟨w1.drew.heap.size, 0, none⟩)) (w' := w1.drew.alloc (.cells #[.slice none 0 0, .slice none 0 0, .slice none 0 0, .int .i64 0, .int .i64 0, .int .i64 0, .int .i64 0, .int .i64 0] 28)) (exec_allocM _ rfl) ?_
      refine hK.out _ _ (HSK.out _ ((Below.refl _ _).drew.alloc (by rw [← HZ1.out]; exact Nat.le_refl _) _)) (fun hS => ?_)
      clear hK
      try simp only [Act.put, List.getElem_toArray, List.getElem_cons_succ, List.getElem_cons_zero, List.setIfInBounds_toArray, List.set_cons_zero, List.set_cons_succ]
      refine wpAnyH_ready (rs := [12]) (by kernel_rfl) (by simp) ?_
      refine AllReadyH.cons rfl (fun K hK => ?_) AllReadyH.nil
      simp only [List.getElem_toArray, List.getElem_cons_succ, List.getElem_cons_zero]
      go_simp
      go_at_call 41
      refine (HSG.out _ ((Below.refl _ _).drew.alloc (by rw [← HZ1.out]; exact Nat.le_refl _) _)).mono ?_
      rintro e w8 ⟨sa, sc, rfl, hr8, hb8⟩
      have HR8 : Hid _ := ⟨hr8⟩
      have HC8 : Hid _ := ⟨hb8⟩
      have HB8 : Hid (Below (P + 1) w1 w8) := ⟨bt2 HZ1.out ((Below.refl _ _).drew.alloc (by rw [← HZ1.out]; exact Nat.le_refl _) _) hb8⟩
      clear hr8 hb8
      go_wp2_with fail
      refine hK.out _ _ (HSK.out _ HB8.out) (fun hS => ?_)
      clear hK
      try simp only [Act.put, List.getElem_toArray, List.getElem_cons_succ, List.getElem_cons_zero, List.setIfInBounds_toArray, List.set_cons_zero, List.set_cons_succ]
      refine wpAnyH_take (i := 17) (v := .agg #[.slice k.oa k.on' k.oc, .slice k.va k.vn k.vc, .slice sa (segsL outs).length sc, .int .i64 0, .int .i64 0, .int .i64 0, .int .i64 0, .int .i64 en]) rfl (by kernel_rfl) (by kernel_rfl) (by kernel_rfl) (fun _ _ _ h => h) (Or.inl ⟨by kernel_rfl, fun u hu => by kernel_rfl⟩) hS ?_
      try simp only [Act.put, List.getElem_toArray, List.getElem_cons_succ, List.getElem_cons_zero, List.setIfInBounds_toArray, List.set_cons_zero, List.set_cons_succ]
      refine wpAnyH_ready (rs := [19]) (by kernel_rfl) (by simp) ?_
      refine AllReadyH.cons rfl (fun K hK => ?_) AllReadyH.nil
      simp only [List.getElem_toArray, List.getElem_cons_succ, List.getElem_cons_zero]
      refine wp_if (by kernel_rfl) ?_
      have HM8 : Hid (Bk w8 w1.drew.heap.size 28 #[.slice none 0 0, .slice none 0 0, .slice none 0 0, .int .i64 0, .int .i64 0, .int .i64 0, .int .i64 0, .int .i64 0]) := ⟨(Bk.new w1.drew _ _).bel HC8.out (by simp)⟩
      refine wp_part (g := w1.drew.heap.size) (off := 0) (t := 28) (val := .agg #[.slice k.oa k.on' k.oc, .slice k.va k.vn k.vc, .slice sa (segsL outs).length sc, .int .i64 0, .int .i64 0, .int .i64 0, .int .i64 0, .int .i64 en]) (old := #[.slice none 0 0, .slice none 0 0, .slice none 0 0, .int .i64 0, .int .i64 0, .int .i64 0, .int .i64 0, .int .i64 0]) (new := #[.slice k.oa k.on' k.oc, .slice k.va k.vn k.vc, .slice sa (segsL outs).length sc, .int .i64 0, .int .i64 0, .int .i64 0, .int .i64 0, .int .i64 en]) rfl (by kernel_rfl) (by kernel_rfl) HM8.out (by kernel_rfl) (Nat.le_of_ble_eq_true (by kernel_rfl)) (oneAll (by kernel_rfl)) (by kernel_rfl) ?_
      refine hK.out _ _ (HSK.out _ (bel_setR HB8.out w1.drew.heap.size (Nat.le_of_eq HZ1.out.symm) _)) (fun hS => ?_)
      clear hK
      try simp only [Act.put, List.getElem_toArray, List.getElem_cons_succ, List.getElem_cons_zero, List.setIfInBounds_toArray, List.set_cons_zero, List.set_cons_succ]
      refine wpAnyH_done (by kernel_rfl) ?_ _
      have hz1 : w1.drew.heap.size = P + 1 := HZ1.out
      have hz9 : (w1.drew.alloc (.cells #[.slice none 0 0, .slice none 0 0, .slice none 0 0, .int .i64 0, .int .i64 0, .int .i64 0, .int .i64 0, .int .i64 0] 28)).heap.size = P + 2 := by simp; exact HZ1.out
      have HEND : Hid (P + 1 ≤ w1.drew.heap.size ∧ Below (P + 1) w1 (w8.setRow w1.drew.heap.size #[.slice k.oa k.on' k.oc, .slice k.va k.vn k.vc, .slice sa (segsL outs).length sc, .int .i64 0, .int .i64 0, .int .i64 0, .int .i64 0, .int .i64 en]) ∧ Bk (w8.setRow w1.drew.heap.size #[.slice k.oa k.on' k.oc, .slice k.va k.vn k.vc, .slice sa (segsL outs).length sc, .int .i64 0, .int .i64 0, .int .i64 0, .int .i64 0, .int .i64 en]) w1.drew.heap.size 28 (mapC k en sa (segsL outs).length sc ⟨0, 0, 0, 0⟩) ∧ OwnR 57 7 encG (w8.setRow w1.drew.heap.size #[.slice k.oa k.on' k.oc, .slice k.va k.vn k.vc, .slice sa (segsL outs).length sc, .int .i64 0, .int .i64 0, .int .i64 0, .int .i64 0, .int .i64 en]) (P + 1) (.slice sa (segsL outs).length sc) (segsL outs) ∧ ∀ q, Value.ownBlock (.slice sa (segsL outs).length sc) = some q → q ≠ w1.drew.heap.size) := ⟨by omega, bel_setR HB8.out _ (by omega) _, HM8.out.setR _, by
        have h2 := own_setR (M := w1.drew.heap.size) HR8.out (fun q hq => by have := (own_cells2 HR8.out q hq).1; omega) #[.slice k.oa k.on' k.oc, .slice k.va k.vn k.vc, .slice sa (segsL outs).length sc, .int .i64 0, .int .i64 0, .int .i64 0, .int .i64 0, .int .i64 en]
        exact ownR_base2 h2 (by omega), fun q hq => by have := (own_cells2 HR8.out q hq).1; rw [hz9] at this; show q ≠ w1.drew.heap.size; omega⟩
      go_wp2
      go_meet
      exact ⟨_, _, _, rfl, HEND⟩
  case rest =>
    obtain ⟨M, sa, sc, rfl, HC⟩ := hcut
    have HBC : Hid (Below (P + 1) w1 wc) := ⟨HC.out.2.1⟩
    have m2 := HC.out.2.2.1.cell 2 rfl
    clear p2 p3 p4 HSK HSG
    generalize hSS : segsL outs = ss at *
    have hSS' : Hid _ := ⟨hSS⟩
    clear hSS
    go_upto_region 3 with (fail)
    go_loopw [27] (fun i wx => ∃ t : Nat, t ≤ ss.length ∧ i = .int .i64 t ∧ Hid (Below (P + 1) w1 wx ∧ Bk wx M 28 (mapC k en sa ss.length sc (tnL (ss.take t))) ∧ OwnR 57 7 encG wx (P + 1) (.slice sa ss.length sc) ss)) (fun i _ => ss.length - (intOf i).toNat)
    case atStart => exact ⟨0, by omega, rfl, ⟨HC.out.2.1, HC.out.2.2.1, HC.out.2.2.2.1⟩⟩
    case round =>
      obtain ⟨t, ht, rfl, HV⟩ := hrel
      by_cases hlt : t < ss.length
      · obtain ⟨_, _, hv2, _, _, _, hc⟩ := HV.out.2.2.any encG_len
        injection hv2 with e1 e2 e3
        subst e1 e3
        obtain ⟨g, rfl, hgB, hgl, hcell⟩ : ∃ g, sa = some ⟨g, 0, none⟩ ∧ P + 1 ≤ g ∧ g < wr.heap.size ∧ ∀ i (hi : i < ss.length), ∀ j, j < 7 → wr.cell? ⟨g, i * 7 + j, none⟩ = (encG ss[i])[j]? := by
          rcases hc with hc | hc
          · rw [hc] at hlt; simp at hlt
          · exact hc
        have c0 := hcell t hlt 0 (by decide)
        have c1 := hcell t hlt 1 (by decide)
        have c2 := hcell t hlt 2 (by decide)
        have c3 := hcell t hlt 3 (by decide)
        have c4 := hcell t hlt 4 (by decide)
        have c5 := hcell t hlt 5 (by decide)
        have c6 := hcell t hlt 6 (by decide)
        have HST : Hid (tnL (ss.take (t + 1)) = tn1 (tnL (ss.take t)) ss[t]) := ⟨by unfold tnL; rw [List.take_succ_eq_append_getElem hlt, List.foldl_append]; rfl⟩
        have HBX : Hid (ss[t].ty = 7 → _) := ⟨HSB.out _ (List.getElem_mem hlt)⟩
        clear hcell hc
        generalize hT1e : tnL (ss.take (t + 1)) = T1 at *
        have HT1E : Hid _ := ⟨hT1e⟩
        clear hT1e
        generalize tnL (ss.take t) = T0 at *
        obtain ⟨x, hx⟩ : ∃ x, x = ss[t] := ⟨_, rfl⟩
        rw [← hx] at c0 c1 c2 c3 c4 c5 c6 HST HBX
        clear hx
        obtain ⟨xty, xfl, xad, xof, xsz, xme, xal⟩ := x
        simp only [encG, List.getElem?_cons_zero, List.getElem?_cons_succ, Nat.add_zero] at c0 c1 c2 c3 c4 c5 c6
        dsimp only at *
        go_upto_region 5 with (fail)
        have HXB : Hid (Bk (wr.alloc (.cells #[.int .i64 xty, .int .i64 xfl, .int .i64 xad, .int .i64 xof, .int .i64 xsz, .int .i64 xme, .int .i64 xal] 57)) wr.heap.size 57 #[.int .i64 xty, .int .i64 xfl, .int .i64 xad, .int .i64 xof, .int .i64 xsz, .int .i64 xme, .int .i64 xal]) := ⟨Bk.new _ _ _⟩
        have HVX : Hid (Below (P + 1) w1 (wr.alloc (.cells #[.int .i64 xty, .int .i64 xfl, .int .i64 xad, .int .i64 xof, .int .i64 xsz, .int .i64 xme, .int .i64 xal] 57)) ∧ Bk (wr.alloc (.cells #[.int .i64 xty, .int .i64 xfl, .int .i64 xad, .int .i64 xof, .int .i64 xsz, .int .i64 xme, .int .i64 xal] 57)) M 28 (mapC k en (some ⟨g, 0, none⟩) ss.length sc T0) ∧ OwnR 57 7 encG (wr.alloc (.cells #[.int .i64 xty, .int .i64 xfl, .int .i64 xad, .int .i64 xof, .int .i64 xsz, .int .i64 xme, .int .i64 xal] 57)) (P + 1) (.slice (some ⟨g, 0, none⟩) ss.length sc) ss) := ⟨HV.out.1.alloc (by omega) _, HV.out.2.1.alloc _, World.ownsRow.alloc HV.out.2.2 _⟩
        have HNE : Hid (wr.heap.size ≠ M ∧ P + 1 ≤ M ∧ ∀ q, Value.ownBlock (.slice (some ⟨g, 0, none⟩) ss.length sc) = some q → q ≠ M) := ⟨by have := HV.out.2.1.lt; omega, HC.out.1, HC.out.2.2.2.2⟩
        clear HV c0 c1 c2 c3 c4 c5 c6 HC HBC
        obtain ⟨X, hX⟩ : ∃ X, wr.heap.size = X := ⟨_, rfl⟩
        rw [hX] at HXB HNE ⊢
        clear hX hgl
        generalize (wr.alloc (.cells #[.int .i64 xty, .int .i64 xfl, .int .i64 xad, .int .i64 xof, .int .i64 xsz, .int .i64 xme, .int .i64 xal] 57)) = v1 at *
        obtain ⟨ta, tb, tc, td⟩ := T0
        try dsimp only at *
        have x0 := HXB.out.cell 0 rfl
        by_cases h7 : xty = 7
        · obtain ⟨b0, b1, b2, b3, jj, hj, hpw⟩ := HBX.out h7
          have HUP : Hid (∀ W, _) := ⟨fun W => up_any xme xal jj hj hpw b2 (by omega) W⟩
          have hT1 : T1 = ⟨xad, xme, xal, xad + upA xme xal⟩ := by rw [HST.out]; unfold tn1; rw [if_pos (by rw [h7]; rfl)]
          have hpl : 1 ≤ xal ∧ xal ≤ 4096 := by rw [hpw]; exact ⟨pow_pos2 jj, pow_le12 jj hj⟩
          have hup := upA_all xme xal hpl.1
          have hwr : IntKind.i64.wrap (xad + upA xme xal) = xad + upA xme xal := by rw [IntKind.wrap_i64]; omega
          clear hpw
          subst h7
          have x2 : v1.cell? ⟨X, 2, none⟩ = some (.int .i64 xad) := HXB.out.cell 2 rfl
          have x5 : v1.cell? ⟨X, 5, none⟩ = some (.int .i64 xme) := HXB.out.cell 5 rfl
          have x6 : v1.cell? ⟨X, 6, none⟩ = some (.int .i64 xal) := HXB.out.cell 6 rfl
          have m3 : v1.cell? ⟨M, 3, none⟩ = some (.int .i64 ta) := HVX.out.2.1.cell 3 rfl
          have m4 : v1.cell? ⟨M, 4, none⟩ = some (.int .i64 tb) := HVX.out.2.1.cell 4 rfl
          have m5 : v1.cell? ⟨M, 5, none⟩ = some (.int .i64 tc) := HVX.out.2.1.cell 5 rfl
          have f3 := HVX.out.2.1.fro 3
          have f4 := HVX.out.2.1.fro 4
          have f5 := HVX.out.2.1.fro 5
          have hne := HNE.out.1
          go_upto_region 6 with (fail)
          go_region
          have HXB2 : Hid (Bk ((((v1.setCell ⟨M, 3, none⟩ (.int .i64 xad)).setCell ⟨M, 4, none⟩ (.int .i64 xme)).setCell ⟨M, 5, none⟩ (.int .i64 xal)).drew) X 57 #[.int .i64 7, .int .i64 xfl, .int .i64 xad, .int .i64 xof, .int .i64 xsz, .int .i64 xme, .int .i64 xal]) := ⟨⟨(((HXB.out.setCo ⟨M, 3, none⟩ (.int .i64 xad) hne).setCo ⟨M, 4, none⟩ (.int .i64 xme) hne).setCo ⟨M, 5, none⟩ (.int .i64 xal) hne).hp⟩⟩
          have HV2 : Hid (Below (P + 1) w1 ((((v1.setCell ⟨M, 3, none⟩ (.int .i64 xad)).setCell ⟨M, 4, none⟩ (.int .i64 xme)).setCell ⟨M, 5, none⟩ (.int .i64 xal)).drew) ∧ Bk ((((v1.setCell ⟨M, 3, none⟩ (.int .i64 xad)).setCell ⟨M, 4, none⟩ (.int .i64 xme)).setCell ⟨M, 5, none⟩ (.int .i64 xal)).drew) M 28 #[.slice k.oa k.on' k.oc, .slice k.va k.vn k.vc, .slice (some ⟨g, 0, none⟩) ss.length sc, .int .i64 xad, .int .i64 xme, .int .i64 xal, .int .i64 td, .int .i64 en] ∧ OwnR 57 7 encG ((((v1.setCell ⟨M, 3, none⟩ (.int .i64 xad)).setCell ⟨M, 4, none⟩ (.int .i64 xme)).setCell ⟨M, 5, none⟩ (.int .i64 xal)).drew) (P + 1) (.slice (some ⟨g, 0, none⟩) ss.length sc) ss) := ⟨(bel_setC (bel_setC (bel_setC HVX.out.1 ⟨M, 3, none⟩ HNE.out.2.1 _) ⟨M, 4, none⟩ HNE.out.2.1 _) ⟨M, 5, none⟩ HNE.out.2.1 _).drew, ⟨(((HVX.out.2.1.setC 3 (.int .i64 xad)).setC 4 (.int .i64 xme)).setC 5 (.int .i64 xal)).hp⟩, own_bel (own_setC (own_setC (own_setC HVX.out.2.2 (fun e => HNE.out.2.2 _ e rfl) 3 _) (fun e => HNE.out.2.2 _ e rfl) 4 _) (fun e => HNE.out.2.2 _ e rfl) 5 _) (Below.refl _ _).drew⟩
          clear HXB HVX x0 x2 x5 x6 m3 m4 m5 f3 f4 f5
          generalize (((v1.setCell ⟨M, 3, none⟩ (.int .i64 xad)).setCell ⟨M, 4, none⟩ (.int .i64 xme)).setCell ⟨M, 5, none⟩ (.int .i64 xal)).drew = v2 at *
          go_upto_region 7 with (fail)
          have x2 : v2.drew.cell? ⟨X, 2, none⟩ = some (.int .i64 xad) := HXB2.out.cell 2 rfl
          have x5 : v2.drew.cell? ⟨X, 5, none⟩ = some (.int .i64 xme) := HXB2.out.cell 5 rfl
          have x6 : v2.drew.cell? ⟨X, 6, none⟩ = some (.int .i64 xal) := HXB2.out.cell 6 rfl
          have m6 : v2.drew.cell? ⟨M, 6, none⟩ = some (.int .i64 td) := HV2.out.2.1.cell 6 rfl
          have f6 : v2.drew.frozen? ⟨M, 6, none⟩ = false := HV2.out.2.1.fro 6
          have HXB3 : Hid (Bk ((v2.setCell ⟨M, 6, none⟩ (.int .i64 (xad + upA xme xal))).drew) X 57 #[.int .i64 7, .int .i64 xfl, .int .i64 xad, .int .i64 xof, .int .i64 xsz, .int .i64 xme, .int .i64 xal]) := ⟨⟨(HXB2.out.setCo ⟨M, 6, none⟩ (.int .i64 (xad + upA xme xal)) hne).hp⟩⟩
          have y2 := HXB3.out.cell 2 rfl
          have y5 := HXB3.out.cell 5 rfl
          have y6 := HXB3.out.cell 6 rfl
          go_region_held3 (fun x => x.cell? ⟨X, 2, none⟩ = some (.int .i64 xad) ∧ x.cell? ⟨X, 5, none⟩ = some (.int .i64 xme) ∧ x.cell? ⟨X, 6, none⟩ = some (.int .i64 xal))
            (first | (with_reducible assumption) | exact ⟨x2, x5, x6⟩ | exact ⟨y2, y5, y6⟩)
            (first
              | (go_at_call 36; (with_reducible refine (HUP.out _).mono ?_); rintro e w' ⟨rfl, hw'⟩; subst w'))
          have HV3 : Hid (Below (P + 1) w1 ((v2.setCell ⟨M, 6, none⟩ (.int .i64 (xad + upA xme xal))).drew) ∧ Bk ((v2.setCell ⟨M, 6, none⟩ (.int .i64 (xad + upA xme xal))).drew) M 28 #[.slice k.oa k.on' k.oc, .slice k.va k.vn k.vc, .slice (some ⟨g, 0, none⟩) ss.length sc, .int .i64 xad, .int .i64 xme, .int .i64 xal, .int .i64 (xad + upA xme xal), .int .i64 en] ∧ OwnR 57 7 encG ((v2.setCell ⟨M, 6, none⟩ (.int .i64 (xad + upA xme xal))).drew) (P + 1) (.slice (some ⟨g, 0, none⟩) ss.length sc) ss) := ⟨(bel_setC HV2.out.1 ⟨M, 6, none⟩ HNE.out.2.1 _).drew, ⟨(HV2.out.2.1.setC 6 (.int .i64 (xad + upA xme xal))).hp⟩, own_bel (own_setC HV2.out.2.2 (fun e => HNE.out.2.2 _ e rfl) 6 _) (Below.refl _ _).drew⟩
          clear HXB2 HXB3 HV2 x2 x5 x6 m6 f6 y2 y5 y6 hwr hup hpl hne
          generalize (v2.setCell ⟨M, 6, none⟩ (.int .i64 (xad + upA xme xal))).drew = v3 at *
          go_wp2_with fail
          go_roundw
          case rel => first | exact ⟨t + 1, hlt, by go_num, ⟨by rw [HT1E.out, hT1]; exact HV3.out⟩⟩ | (trace_state; fail "x")
          case measure => simp [intOf]; omega
        · have hT1 : T1 = ⟨ta, tb, tc, td⟩ := by rw [HST.out]; unfold tn1; rw [if_neg (by simpa using h7)]
          have h7d : decide (xty = 7) = false := decide_eq_false h7
          clear HXB HNE
          go_wp2
          go_roundw
          case rel => first | exact ⟨t + 1, hlt, by go_num, ⟨by rw [HT1E.out, hT1]; exact HVX.out⟩⟩ | (trace_state; fail "x")
          case measure => simp [intOf]; omega
      · obtain rfl : t = ss.length := by omega
        rw [List.take_of_length_le (Nat.le_refl _)] at HV
        have KP := HKP.out.bel HV.out.1 (Nat.lt_succ_self P)
        have HFB : Hid (Below P wi (wr.setRow P (mapC k en sa ss.length sc (tnL ss)))) := ⟨bel_setR (HB1.out.trans (HV.out.1.mono (Nat.le_succ P))) P (Nat.le_refl _) _⟩
        have HFO : Hid (OwnR 57 7 encG (wr.setRow P (mapC k en sa ss.length sc (tnL ss))) P (.slice sa ss.length sc) ss) := ⟨own_setR (M := P) (ownR_base2 HV.out.2.2 (Nat.le_succ P)) (fun q hq => by have := (own_cells2 HV.out.2.2 q hq).1; omega) _⟩
        have KE := KP.setR (mapC k en sa ss.length sc (tnL ss))
        go_upto_region 9 with (fail)
        iterate 1 go_step
        refine wpList_load_of (p := ⟨M, 0, none⟩) (v := (.agg (mapC k en sa ss.length sc (tnL ss)))) rfl (by kernel_rfl) (by kernel_rfl) (HV.out.2.1.loadA 0 _ Try.underlying28 sizeM rfl rfl) ?_
        try simp only [Act.put, List.getElem_toArray, List.getElem_cons_succ, List.getElem_cons_zero, List.setIfInBounds_toArray, List.set_cons_zero, List.set_cons_succ]
        refine wpList_part (g := P) (off := 0) (val := (.agg (mapC k en sa ss.length sc (tnL ss)))) (new := (mapC k en sa ss.length sc (tnL ss))) rfl rfl (by kernel_rfl) (by kernel_rfl) KP (by kernel_rfl) (Nat.le_of_ble_eq_true (by kernel_rfl)) (oneAll (by kernel_rfl)) (by kernel_rfl) ?_
        try simp only [Act.put, List.getElem_toArray, List.getElem_cons_succ, List.getElem_cons_zero, List.setIfInBounds_toArray, List.set_cons_zero, List.set_cons_succ]
        refine wpList_nil ?_
        go_wp2_with fail
        exact bodyPost_ret (v := (.agg (mapC k en sa ss.length sc (tnL ss)))) (results_cell_row (p := 2) (ty := 28) (by kernel_rfl) _ _ P 28 _ (0, 0) _ (by kernel_rfl) KE.hp Try.underlying28 rfl (by kernel_rfl)) rfl ⟨sa, sc, by rw [hSS'.out], by rw [hSS'.out, hP]; exact HFO.out, by rw [hP]; exact HFB.out⟩
end Go.Proofs.Ytojiomkinhnodaa
