/- The program's reader of a frame's program: numbers. -/
import Derived.Test.YtgldijohpfihaaaDoorCRReadX
import Derived.Test.YtgldijohpfihaaaDoorCPW
namespace Go.Proofs.YtgldijohpfihaaaDoor
open Go.ChangeShapes Go.WideShapes Go.ChangeAt Go.RowKit
set_option linter.unusedVariables false
set_option linter.unusedSimpArgs false

theorem preadU (ao : Option Addr) (len cap t : Nat) (bs : Nat → Int) (w : World) (hr : Row w ao len bs) (hbs : ∀ i, 0 ≤ bs i ∧ bs i < 256) (hl : len ≤ 1048576) (ht : t ≤ 1048576) :
    Calls Tryd.prog 88 #[.slice ao len cap, .int .i64 (t : Int)] w fun e w' => RE3 (uR len bs t) e ∧ Below w.heap.size w w' := by
  unfold uR
  cases hc : cN len bs t with
  | none =>
    rcases cN_none hc with h | h
    · refine (readU_fin ao len cap bs t w hr (by omega) (by omega) h).mono ?_
      rintro e w' ⟨rfl, hb⟩
      exact ⟨⟨20, rfl, by decide⟩, hb⟩
    · refine (readU_lng ao len cap bs t w hr (by omega) h).mono ?_
      rintro e w' ⟨rfl, hb⟩
      exact ⟨⟨21, rfl, by decide⟩, hb⟩
  | some j =>
    have hn := cN_some hc
    dsimp only
    split
    · rename_i h9
      obtain ⟨rfl, h9⟩ := h9
      refine (readU_bad ao len cap t bs w hr hbs (by omega) hn (by omega)).mono ?_
      rintro e w' ⟨rfl, hb⟩
      exact ⟨⟨21, rfl, by decide⟩, hb⟩
    · rename_i h9
      refine (readU_num ao len cap t (j + 1) bs w hr hbs (by omega) hn (fun e => by
        obtain rfl : j = 9 := by omega
        apply Classical.byContradiction
        intro hx
        exact h9 ⟨rfl, by omega⟩)).mono ?_
      rintro e w' ⟨rfl, hb⟩
      exact ⟨rfl, hb⟩
theorem preadS (ao : Option Addr) (len cap t : Nat) (bs : Nat → Int) (w : World) (hr : Row w ao len bs) (hbs : ∀ i, 0 ≤ bs i ∧ bs i < 256) (hl : len ≤ 1048576) (ht : t ≤ 1048576) :
    Calls Tryd.prog 110 #[.slice ao len cap, .int .i64 (t : Int)] w fun e w' => RE3 (sR len bs t) e ∧ Below w.heap.size w w' := by
  unfold sR
  cases hc : cN len bs t with
  | none =>
    rcases cN_none hc with h | h
    · refine (readS_fin ao len cap bs t w hr (by omega) (by omega) h).mono ?_
      rintro e w' ⟨rfl, hb⟩
      exact ⟨⟨20, rfl, by decide⟩, hb⟩
    · refine (readS_lng ao len cap bs t w hr (by omega) h).mono ?_
      rintro e w' ⟨rfl, hb⟩
      exact ⟨⟨21, rfl, by decide⟩, hb⟩
  | some j =>
    have hn := cN_some hc
    dsimp only
    split
    · rename_i h9
      obtain ⟨rfl, h9⟩ := h9
      refine (readS_bad ao len cap t bs w hr hbs (by omega) hn (by omega)).mono ?_
      rintro e w' ⟨rfl, hb⟩
      exact ⟨⟨21, rfl, by decide⟩, hb⟩
    · rename_i h9
      refine (readS_num ao len cap t (j + 1) bs w hr hbs (by omega) hn (fun e => by
        obtain rfl : j = 9 := by omega
        apply Classical.byContradiction
        intro hx
        exact h9 ⟨rfl, by omega⟩)).mono ?_
      rintro e w' ⟨rfl, hb⟩
      exact ⟨rfl, hb⟩
/-- The reader lies in a block. -/
abbrev rdC (v : Value) (t : Int) (bad : Bool) : Array Value := #[v, .int .i64 t, .bool bad]
abbrev PD (w : World) (rb : Nat) (v : Value) (t : Int) (bad : Bool) : Prop := Bk w rb 99 (rdC v t bad)
theorem turn_set (w : World) (b : Nat) (V : Array Value) : Turn (fun k => k = b) w (w.setRow b V) := ⟨rfl, rfl, rfl, by simp [World.setRow], fun k _ hk => setRow_other _ _ _ _ hk⟩
theorem bool_cells (b : Bool) : ∀ u ∈ (Value.bool b).cells.toList, u.oneCell' = true := fun u hu => by simp [Value.cells] at hu; subst hu; rfl
theorem load_bytes {w : World} {p : Addr} {ao : Option Addr} {n c : Nat} (hc : w.cell? p = some (.slice ao n c)) : (loadVar 64 p).run Tryd.prog w = .ok (.slice ao n c) w := by
  simp [loadVar, isAgg, run_underlying Tryd.underlying64, go_sem, hc]

set_option maxRecDepth 10000 in
theorem pnumber_no (rb : Nat) (v : Value) (t n e g : Int) (bad : Bool) (w : World) (h : PD w rb v t bad) (hg : g ≠ 0) :
    Calls Tryd.prog 73 #[.pointer (some ⟨rb, 0, none⟩), .int .i64 n, .int .i64 e, .int .i64 g] w fun e w' => e = .returned (.int .i64 0) ∧ PD w' rb v t true ∧ Turn (fun k => k = rb) w w' := by
  have hb : (g != 0) = true := by simpa using hg
  go_enter Tryd.func73, Tryd.ntmps73
  go_wp2_with (refine wpList_part (g := rb) (off := 2) (val := .bool true) (new := rdC v t true) rfl rfl (by rfl) (by rfl) h (by rw [sizeBool]; rfl) (by show 2 + 1 ≤ 3; omega) (bool_cells true) rfl ?_)
  go_ret
  exact ⟨rfl, h.setR _, turn_set _ _ _⟩
set_option maxRecDepth 10000 in
theorem pnumber_ok (rb : Nat) (v : Value) (t n e : Int) (bad : Bool) (w : World) (h : PD w rb v t bad) :
    Calls Tryd.prog 73 #[.pointer (some ⟨rb, 0, none⟩), .int .i64 n, .int .i64 e, .int .i64 0] w fun e' w' => e' = .returned (.int .i64 n) ∧ PD w' rb v e bad ∧ Turn (fun k => k = rb) w w' := by
  go_enter Tryd.func73, Tryd.ntmps73
  go_wp2_with (refine wpList_part (g := rb) (off := 1) (val := .int .i64 e) (new := rdC v e bad) rfl rfl (by rfl) (by rfl) h (by rw [sizeInt]; rfl) (by show 1 + 1 ≤ 3; omega) (one_cells e) rfl ?_)
  go_ret
  exact ⟨rfl, h.setR _, turn_set _ _ _⟩
/-- What a number leaves. -/
def nP (m : Option (Int × Nat)) (t : Nat) (bad : Bool) : Int × Nat × Bool := match m with
  | none => (0, t, true)
  | some (n, e) => (n, e, bad)
/-- What a call that reads leaves. -/
def PE (x : Int × Nat × Bool) (w w' : World) (rb : Nat) (v : Value) (e : Ending) : Prop := e = .returned (.int .i64 x.1) ∧ PD w' rb v (x.2.1 : Int) x.2.2 ∧ Turn (fun k => k = rb) w w'

set_option maxRecDepth 10000 in
set_option maxHeartbeats 1000000 in
theorem punsigned_any (rb : Nat) (ao : Option Addr) (len cap t : Nat) (bs : Nat → Int) (bad : Bool) (w : World) (h : PD w rb (.slice ao len cap) (t : Int) bad) (hr : Row w ao len bs) (hbs : ∀ i, 0 ≤ bs i ∧ bs i < 256) (hl : len ≤ 1048576) (ht : t ≤ 1048576) :
    Calls Tryd.prog 74 #[.pointer (some ⟨rb, 0, none⟩)] w fun e w' => PE (nP (uR len bs t) t bad) w w' rb (.slice ao len cap) e := by
  have hd : PD w.drew rb (.slice ao len cap) (t : Int) bad := h.of rfl
  have HU := preadU ao len cap t bs w.drew (hr.below ((Below.refl w.heap.size w).drew) (Nat.le_refl _)) hbs hl ht
  have T0 : Turn (fun k => k = rb) w w.drew := Turn.of_below ((Below.refl w.heap.size w).drew) _
  go_enter Tryd.func74, Tryd.ntmps74
  go_upto_region 1 with fail
  refine wp_region_held_drew (S := fun u => u.cell? ⟨rb, 0, none⟩ = some (.slice ao len cap)) (by kernel_rfl) (hd.cell 0 rfl) (fun hS => ?_)
  generalize w.drew = W at *
  refine wpAnyH_take (i := 0) (v := .pointer (some ⟨rb, 0, none⟩)) rfl (by kernel_rfl) (by kernel_rfl) (by kernel_rfl) (fun _ _ _ h => h) (Or.inl ⟨by kernel_rfl, fun u hu => by kernel_rfl⟩) hS ?_
  simp only [Act.put, List.getElem_toArray, List.getElem_cons_succ, List.getElem_cons_zero, List.setIfInBounds_toArray, List.set_cons_zero, List.set_cons_succ]
  refine wpAnyH_take (i := 1) (v := .pointer (some ⟨rb, 0, none⟩)) rfl (by kernel_rfl) (by kernel_rfl) (by kernel_rfl) (fun _ _ _ h => h) (Or.inl ⟨by kernel_rfl, fun u hu => by kernel_rfl⟩) hS ?_
  simp only [Act.put, List.getElem_toArray, List.getElem_cons_succ, List.getElem_cons_zero, List.setIfInBounds_toArray, List.set_cons_zero, List.set_cons_succ]
  refine wpAnyH_take (i := 2) (v := .pointer (some ⟨rb, 0, none⟩)) rfl (by kernel_rfl) (by kernel_rfl) (by kernel_rfl) (fun _ _ _ h => h) (Or.inl ⟨by kernel_rfl, fun u hu => by kernel_rfl⟩) hS ?_
  simp only [Act.put, List.getElem_toArray, List.getElem_cons_succ, List.getElem_cons_zero, List.setIfInBounds_toArray, List.set_cons_zero, List.set_cons_succ]
  refine wpAnyH_take (i := 3) (v := .pointer (some ⟨rb, 0, none⟩)) rfl (by kernel_rfl) (by kernel_rfl) (by kernel_rfl) (fun _ _ _ h => h) (Or.inl ⟨by kernel_rfl, fun u hu => by kernel_rfl⟩) hS ?_
  simp only [Act.put, List.getElem_toArray, List.getElem_cons_succ, List.getElem_cons_zero, List.setIfInBounds_toArray, List.set_cons_zero, List.set_cons_succ]
  refine wpAnyH_take (i := 4) (v := .slice ao len cap) rfl (by kernel_rfl) (by kernel_rfl) (by kernel_rfl) (fun _ _ _ h => h) (Or.inl ⟨by kernel_rfl, fun u hu => exec_loadV (t := 64) (p := ⟨rb, 0, none⟩) rfl (by kernel_rfl) (load_bytes hu)⟩) hS ?_
  simp only [Act.put, List.getElem_toArray, List.getElem_cons_succ, List.getElem_cons_zero, List.setIfInBounds_toArray, List.set_cons_zero, List.set_cons_succ]
  refine wpAnyH_take (i := 5) (v := .pointer (some ⟨rb, 0, none⟩)) rfl (by kernel_rfl) (by kernel_rfl) (by kernel_rfl) (fun _ _ _ h => h) (Or.inl ⟨by kernel_rfl, fun u hu => by kernel_rfl⟩) hS ?_
  simp only [Act.put, List.getElem_toArray, List.getElem_cons_succ, List.getElem_cons_zero, List.setIfInBounds_toArray, List.set_cons_zero, List.set_cons_succ]
  refine wpAnyH_take (i := 6) (v := .pointer (some ⟨rb, 0, none⟩)) rfl (by kernel_rfl) (by kernel_rfl) (by kernel_rfl) (fun _ _ _ h => h) (Or.inl ⟨by kernel_rfl, fun u hu => by kernel_rfl⟩) hS ?_
  simp only [Act.put, List.getElem_toArray, List.getElem_cons_succ, List.getElem_cons_zero, List.setIfInBounds_toArray, List.set_cons_zero, List.set_cons_succ]
  refine wpAnyH_take (i := 7) (v := .pointer (some ⟨rb, 1, none⟩)) rfl (by kernel_rfl) (by kernel_rfl) (by kernel_rfl) (fun _ _ _ h => h) (Or.inl ⟨by kernel_rfl, fun u hu => by kernel_rfl⟩) hS ?_
  simp only [Act.put, List.getElem_toArray, List.getElem_cons_succ, List.getElem_cons_zero, List.setIfInBounds_toArray, List.set_cons_zero, List.set_cons_succ]
  refine wpAnyH_ready (rs := [8]) (by kernel_rfl) (by simp) ?_
  refine AllReadyH.cons rfl (fun K hK => ?_) AllReadyH.nil
  simp only [List.getElem_toArray, List.getElem_cons_succ, List.getElem_cons_zero]
  refine wp_if (by kernel_rfl) ?_
  refine wp_val (v := .int .i64 (t : Int)) (w' := W) (exec_loadV (t := 3) (p := ⟨rb, 1, none⟩) rfl (by kernel_rfl) (load_i64 (hd.cell 1 rfl))) ?_
  refine hK.out _ _ hS (fun hS => ?_)
  clear hK
  simp only [Act.put, List.getElem_toArray, List.getElem_cons_succ, List.getElem_cons_zero, List.setIfInBounds_toArray, List.set_cons_zero, List.set_cons_succ]
  refine wpAnyH_ready (rs := [9]) (by kernel_rfl) (by simp) ?_
  refine AllReadyH.cons rfl (fun K hK => ?_) AllReadyH.nil
  simp only [List.getElem_toArray, List.getElem_cons_succ, List.getElem_cons_zero]
  refine wp_if (by kernel_rfl) ?_
  refine wp_enter (f := 88) (args := #[.slice ao len cap, .int .i64 (t : Int)]) (by kernel_rfl) HU ?_
  rintro e w1 ⟨hE, hb1⟩
  have h1 := hd.bel hb1 hd.lt
  have T1 := T0.trans (Turn.of_below hb1 _)
  cases hm : uR len bs t with
  | none =>
    rw [hm] at hE
    obtain ⟨g, rfl, hg⟩ := hE
    refine ⟨_, rfl, ?_⟩
    refine hK.out _ _ (h1.cell 0 rfl) (fun hS => ?_)
    clear hK
    simp only [Act.put, List.getElem_toArray, List.getElem_cons_succ, List.getElem_cons_zero, List.setIfInBounds_toArray, List.set_cons_zero, List.set_cons_succ]
    refine wpAnyH_take (i := 10) (v := .int .i64 0) rfl (by kernel_rfl) (by kernel_rfl) (by kernel_rfl) (fun _ _ _ h => h) (Or.inl ⟨by kernel_rfl, fun u hu => by kernel_rfl⟩) hS ?_
    simp only [Act.put, List.getElem_toArray, List.getElem_cons_succ, List.getElem_cons_zero, List.setIfInBounds_toArray, List.set_cons_zero, List.set_cons_succ]
    refine wpAnyH_take (i := 11) (v := .int .i64 0) rfl (by kernel_rfl) (by kernel_rfl) (by kernel_rfl) (fun _ _ _ h => h) (Or.inl ⟨by kernel_rfl, fun u hu => by kernel_rfl⟩) hS ?_
    simp only [Act.put, List.getElem_toArray, List.getElem_cons_succ, List.getElem_cons_zero, List.setIfInBounds_toArray, List.set_cons_zero, List.set_cons_succ]
    refine wpAnyH_take (i := 12) (v := .int .i64 g) rfl (by kernel_rfl) (by kernel_rfl) (by kernel_rfl) (fun _ _ _ h => h) (Or.inl ⟨by kernel_rfl, fun u hu => by kernel_rfl⟩) hS ?_
    simp only [Act.put, List.getElem_toArray, List.getElem_cons_succ, List.getElem_cons_zero, List.setIfInBounds_toArray, List.set_cons_zero, List.set_cons_succ]
    refine wpAnyH_ready (rs := [13]) (by kernel_rfl) (by simp) ?_
    refine AllReadyH.cons rfl (fun K hK => ?_) AllReadyH.nil
    simp only [List.getElem_toArray, List.getElem_cons_succ, List.getElem_cons_zero]
    refine wp_if (by kernel_rfl) ?_
    refine wp_enter (f := 73) (args := #[.pointer (some ⟨rb, 0, none⟩), .int .i64 0, .int .i64 0, .int .i64 g]) (by kernel_rfl) (pnumber_no rb (.slice ao len cap) (t : Int) 0 0 g bad w1 h1 hg) ?_
    rintro e w2 ⟨rfl, h2, t2⟩
    refine ⟨_, rfl, ?_⟩
    refine hK.out _ _ (h2.cell 0 rfl) (fun hS => ?_)
    clear hK
    simp only [Act.put, List.getElem_toArray, List.getElem_cons_succ, List.getElem_cons_zero, List.setIfInBounds_toArray, List.set_cons_zero, List.set_cons_succ]
    refine wpAnyH_take (i := 14) (v := .int .i64 0) rfl (by kernel_rfl) (by kernel_rfl) (by kernel_rfl) (fun _ _ _ h => h) (Or.inl ⟨by kernel_rfl, fun u hu => by kernel_rfl⟩) hS ?_
    simp only [Act.put, List.getElem_toArray, List.getElem_cons_succ, List.getElem_cons_zero, List.setIfInBounds_toArray, List.set_cons_zero, List.set_cons_succ]
    refine wpAnyH_done (by kernel_rfl) ?_ _
    go_wp2_with fail
    go_ret
    unfold PE
    rw [hm]
    exact ⟨rfl, h2, T1.trans t2⟩
  | some p =>
    obtain ⟨n, e1⟩ := p
    rw [hm] at hE
    obtain rfl := hE
    refine ⟨_, rfl, ?_⟩
    refine hK.out _ _ (h1.cell 0 rfl) (fun hS => ?_)
    clear hK
    simp only [Act.put, List.getElem_toArray, List.getElem_cons_succ, List.getElem_cons_zero, List.setIfInBounds_toArray, List.set_cons_zero, List.set_cons_succ]
    refine wpAnyH_take (i := 10) (v := .int .i64 n) rfl (by kernel_rfl) (by kernel_rfl) (by kernel_rfl) (fun _ _ _ h => h) (Or.inl ⟨by kernel_rfl, fun u hu => by kernel_rfl⟩) hS ?_
    simp only [Act.put, List.getElem_toArray, List.getElem_cons_succ, List.getElem_cons_zero, List.setIfInBounds_toArray, List.set_cons_zero, List.set_cons_succ]
    refine wpAnyH_take (i := 11) (v := .int .i64 (e1 : Int)) rfl (by kernel_rfl) (by kernel_rfl) (by kernel_rfl) (fun _ _ _ h => h) (Or.inl ⟨by kernel_rfl, fun u hu => by kernel_rfl⟩) hS ?_
    simp only [Act.put, List.getElem_toArray, List.getElem_cons_succ, List.getElem_cons_zero, List.setIfInBounds_toArray, List.set_cons_zero, List.set_cons_succ]
    refine wpAnyH_take (i := 12) (v := .int .i64 0) rfl (by kernel_rfl) (by kernel_rfl) (by kernel_rfl) (fun _ _ _ h => h) (Or.inl ⟨by kernel_rfl, fun u hu => by kernel_rfl⟩) hS ?_
    simp only [Act.put, List.getElem_toArray, List.getElem_cons_succ, List.getElem_cons_zero, List.setIfInBounds_toArray, List.set_cons_zero, List.set_cons_succ]
    refine wpAnyH_ready (rs := [13]) (by kernel_rfl) (by simp) ?_
    refine AllReadyH.cons rfl (fun K hK => ?_) AllReadyH.nil
    simp only [List.getElem_toArray, List.getElem_cons_succ, List.getElem_cons_zero]
    refine wp_if (by kernel_rfl) ?_
    refine wp_enter (f := 73) (args := #[.pointer (some ⟨rb, 0, none⟩), .int .i64 n, .int .i64 (e1 : Int), .int .i64 0]) (by kernel_rfl) (pnumber_ok rb (.slice ao len cap) (t : Int) n (e1 : Int) bad w1 h1) ?_
    rintro e w2 ⟨rfl, h2, t2⟩
    refine ⟨_, rfl, ?_⟩
    refine hK.out _ _ (h2.cell 0 rfl) (fun hS => ?_)
    clear hK
    simp only [Act.put, List.getElem_toArray, List.getElem_cons_succ, List.getElem_cons_zero, List.setIfInBounds_toArray, List.set_cons_zero, List.set_cons_succ]
    refine wpAnyH_take (i := 14) (v := .int .i64 n) rfl (by kernel_rfl) (by kernel_rfl) (by kernel_rfl) (fun _ _ _ h => h) (Or.inl ⟨by kernel_rfl, fun u hu => by kernel_rfl⟩) hS ?_
    simp only [Act.put, List.getElem_toArray, List.getElem_cons_succ, List.getElem_cons_zero, List.setIfInBounds_toArray, List.set_cons_zero, List.set_cons_succ]
    refine wpAnyH_done (by kernel_rfl) ?_ _
    go_wp2_with fail
    go_ret
    unfold PE
    rw [hm]
    exact ⟨rfl, h2, T1.trans t2⟩

set_option maxRecDepth 10000 in
set_option maxHeartbeats 1000000 in
theorem psigned_any (rb : Nat) (ao : Option Addr) (len cap t : Nat) (bs : Nat → Int) (bad : Bool) (w : World) (h : PD w rb (.slice ao len cap) (t : Int) bad) (hr : Row w ao len bs) (hbs : ∀ i, 0 ≤ bs i ∧ bs i < 256) (hl : len ≤ 1048576) (ht : t ≤ 1048576) :
    Calls Tryd.prog 89 #[.pointer (some ⟨rb, 0, none⟩)] w fun e w' => PE (nP (sR len bs t) t bad) w w' rb (.slice ao len cap) e := by
  have hd : PD w.drew rb (.slice ao len cap) (t : Int) bad := h.of rfl
  have HU := preadS ao len cap t bs w.drew (hr.below ((Below.refl w.heap.size w).drew) (Nat.le_refl _)) hbs hl ht
  have T0 : Turn (fun k => k = rb) w w.drew := Turn.of_below ((Below.refl w.heap.size w).drew) _
  go_enter Tryd.func89, Tryd.ntmps89
  go_upto_region 1 with fail
  refine wp_region_held_drew (S := fun u => u.cell? ⟨rb, 0, none⟩ = some (.slice ao len cap)) (by kernel_rfl) (hd.cell 0 rfl) (fun hS => ?_)
  generalize w.drew = W at *
  refine wpAnyH_take (i := 0) (v := .pointer (some ⟨rb, 0, none⟩)) rfl (by kernel_rfl) (by kernel_rfl) (by kernel_rfl) (fun _ _ _ h => h) (Or.inl ⟨by kernel_rfl, fun u hu => by kernel_rfl⟩) hS ?_
  simp only [Act.put, List.getElem_toArray, List.getElem_cons_succ, List.getElem_cons_zero, List.setIfInBounds_toArray, List.set_cons_zero, List.set_cons_succ]
  refine wpAnyH_take (i := 1) (v := .pointer (some ⟨rb, 0, none⟩)) rfl (by kernel_rfl) (by kernel_rfl) (by kernel_rfl) (fun _ _ _ h => h) (Or.inl ⟨by kernel_rfl, fun u hu => by kernel_rfl⟩) hS ?_
  simp only [Act.put, List.getElem_toArray, List.getElem_cons_succ, List.getElem_cons_zero, List.setIfInBounds_toArray, List.set_cons_zero, List.set_cons_succ]
  refine wpAnyH_take (i := 2) (v := .pointer (some ⟨rb, 0, none⟩)) rfl (by kernel_rfl) (by kernel_rfl) (by kernel_rfl) (fun _ _ _ h => h) (Or.inl ⟨by kernel_rfl, fun u hu => by kernel_rfl⟩) hS ?_
  simp only [Act.put, List.getElem_toArray, List.getElem_cons_succ, List.getElem_cons_zero, List.setIfInBounds_toArray, List.set_cons_zero, List.set_cons_succ]
  refine wpAnyH_take (i := 3) (v := .pointer (some ⟨rb, 0, none⟩)) rfl (by kernel_rfl) (by kernel_rfl) (by kernel_rfl) (fun _ _ _ h => h) (Or.inl ⟨by kernel_rfl, fun u hu => by kernel_rfl⟩) hS ?_
  simp only [Act.put, List.getElem_toArray, List.getElem_cons_succ, List.getElem_cons_zero, List.setIfInBounds_toArray, List.set_cons_zero, List.set_cons_succ]
  refine wpAnyH_take (i := 4) (v := .slice ao len cap) rfl (by kernel_rfl) (by kernel_rfl) (by kernel_rfl) (fun _ _ _ h => h) (Or.inl ⟨by kernel_rfl, fun u hu => exec_loadV (t := 64) (p := ⟨rb, 0, none⟩) rfl (by kernel_rfl) (load_bytes hu)⟩) hS ?_
  simp only [Act.put, List.getElem_toArray, List.getElem_cons_succ, List.getElem_cons_zero, List.setIfInBounds_toArray, List.set_cons_zero, List.set_cons_succ]
  refine wpAnyH_take (i := 5) (v := .pointer (some ⟨rb, 0, none⟩)) rfl (by kernel_rfl) (by kernel_rfl) (by kernel_rfl) (fun _ _ _ h => h) (Or.inl ⟨by kernel_rfl, fun u hu => by kernel_rfl⟩) hS ?_
  simp only [Act.put, List.getElem_toArray, List.getElem_cons_succ, List.getElem_cons_zero, List.setIfInBounds_toArray, List.set_cons_zero, List.set_cons_succ]
  refine wpAnyH_take (i := 6) (v := .pointer (some ⟨rb, 0, none⟩)) rfl (by kernel_rfl) (by kernel_rfl) (by kernel_rfl) (fun _ _ _ h => h) (Or.inl ⟨by kernel_rfl, fun u hu => by kernel_rfl⟩) hS ?_
  simp only [Act.put, List.getElem_toArray, List.getElem_cons_succ, List.getElem_cons_zero, List.setIfInBounds_toArray, List.set_cons_zero, List.set_cons_succ]
  refine wpAnyH_take (i := 7) (v := .pointer (some ⟨rb, 1, none⟩)) rfl (by kernel_rfl) (by kernel_rfl) (by kernel_rfl) (fun _ _ _ h => h) (Or.inl ⟨by kernel_rfl, fun u hu => by kernel_rfl⟩) hS ?_
  simp only [Act.put, List.getElem_toArray, List.getElem_cons_succ, List.getElem_cons_zero, List.setIfInBounds_toArray, List.set_cons_zero, List.set_cons_succ]
  refine wpAnyH_ready (rs := [8]) (by kernel_rfl) (by simp) ?_
  refine AllReadyH.cons rfl (fun K hK => ?_) AllReadyH.nil
  simp only [List.getElem_toArray, List.getElem_cons_succ, List.getElem_cons_zero]
  refine wp_if (by kernel_rfl) ?_
  refine wp_val (v := .int .i64 (t : Int)) (w' := W) (exec_loadV (t := 3) (p := ⟨rb, 1, none⟩) rfl (by kernel_rfl) (load_i64 (hd.cell 1 rfl))) ?_
  refine hK.out _ _ hS (fun hS => ?_)
  clear hK
  simp only [Act.put, List.getElem_toArray, List.getElem_cons_succ, List.getElem_cons_zero, List.setIfInBounds_toArray, List.set_cons_zero, List.set_cons_succ]
  refine wpAnyH_ready (rs := [9]) (by kernel_rfl) (by simp) ?_
  refine AllReadyH.cons rfl (fun K hK => ?_) AllReadyH.nil
  simp only [List.getElem_toArray, List.getElem_cons_succ, List.getElem_cons_zero]
  refine wp_if (by kernel_rfl) ?_
  refine wp_enter (f := 110) (args := #[.slice ao len cap, .int .i64 (t : Int)]) (by kernel_rfl) HU ?_
  rintro e w1 ⟨hE, hb1⟩
  have h1 := hd.bel hb1 hd.lt
  have T1 := T0.trans (Turn.of_below hb1 _)
  cases hm : sR len bs t with
  | none =>
    rw [hm] at hE
    obtain ⟨g, rfl, hg⟩ := hE
    refine ⟨_, rfl, ?_⟩
    refine hK.out _ _ (h1.cell 0 rfl) (fun hS => ?_)
    clear hK
    simp only [Act.put, List.getElem_toArray, List.getElem_cons_succ, List.getElem_cons_zero, List.setIfInBounds_toArray, List.set_cons_zero, List.set_cons_succ]
    refine wpAnyH_take (i := 10) (v := .int .i64 0) rfl (by kernel_rfl) (by kernel_rfl) (by kernel_rfl) (fun _ _ _ h => h) (Or.inl ⟨by kernel_rfl, fun u hu => by kernel_rfl⟩) hS ?_
    simp only [Act.put, List.getElem_toArray, List.getElem_cons_succ, List.getElem_cons_zero, List.setIfInBounds_toArray, List.set_cons_zero, List.set_cons_succ]
    refine wpAnyH_take (i := 11) (v := .int .i64 0) rfl (by kernel_rfl) (by kernel_rfl) (by kernel_rfl) (fun _ _ _ h => h) (Or.inl ⟨by kernel_rfl, fun u hu => by kernel_rfl⟩) hS ?_
    simp only [Act.put, List.getElem_toArray, List.getElem_cons_succ, List.getElem_cons_zero, List.setIfInBounds_toArray, List.set_cons_zero, List.set_cons_succ]
    refine wpAnyH_take (i := 12) (v := .int .i64 g) rfl (by kernel_rfl) (by kernel_rfl) (by kernel_rfl) (fun _ _ _ h => h) (Or.inl ⟨by kernel_rfl, fun u hu => by kernel_rfl⟩) hS ?_
    simp only [Act.put, List.getElem_toArray, List.getElem_cons_succ, List.getElem_cons_zero, List.setIfInBounds_toArray, List.set_cons_zero, List.set_cons_succ]
    refine wpAnyH_ready (rs := [13]) (by kernel_rfl) (by simp) ?_
    refine AllReadyH.cons rfl (fun K hK => ?_) AllReadyH.nil
    simp only [List.getElem_toArray, List.getElem_cons_succ, List.getElem_cons_zero]
    refine wp_if (by kernel_rfl) ?_
    refine wp_enter (f := 73) (args := #[.pointer (some ⟨rb, 0, none⟩), .int .i64 0, .int .i64 0, .int .i64 g]) (by kernel_rfl) (pnumber_no rb (.slice ao len cap) (t : Int) 0 0 g bad w1 h1 hg) ?_
    rintro e w2 ⟨rfl, h2, t2⟩
    refine ⟨_, rfl, ?_⟩
    refine hK.out _ _ (h2.cell 0 rfl) (fun hS => ?_)
    clear hK
    simp only [Act.put, List.getElem_toArray, List.getElem_cons_succ, List.getElem_cons_zero, List.setIfInBounds_toArray, List.set_cons_zero, List.set_cons_succ]
    refine wpAnyH_take (i := 14) (v := .int .i64 0) rfl (by kernel_rfl) (by kernel_rfl) (by kernel_rfl) (fun _ _ _ h => h) (Or.inl ⟨by kernel_rfl, fun u hu => by kernel_rfl⟩) hS ?_
    simp only [Act.put, List.getElem_toArray, List.getElem_cons_succ, List.getElem_cons_zero, List.setIfInBounds_toArray, List.set_cons_zero, List.set_cons_succ]
    refine wpAnyH_done (by kernel_rfl) ?_ _
    go_wp2_with fail
    go_ret
    unfold PE
    rw [hm]
    exact ⟨rfl, h2, T1.trans t2⟩
  | some p =>
    obtain ⟨n, e1⟩ := p
    rw [hm] at hE
    obtain rfl := hE
    refine ⟨_, rfl, ?_⟩
    refine hK.out _ _ (h1.cell 0 rfl) (fun hS => ?_)
    clear hK
    simp only [Act.put, List.getElem_toArray, List.getElem_cons_succ, List.getElem_cons_zero, List.setIfInBounds_toArray, List.set_cons_zero, List.set_cons_succ]
    refine wpAnyH_take (i := 10) (v := .int .i64 n) rfl (by kernel_rfl) (by kernel_rfl) (by kernel_rfl) (fun _ _ _ h => h) (Or.inl ⟨by kernel_rfl, fun u hu => by kernel_rfl⟩) hS ?_
    simp only [Act.put, List.getElem_toArray, List.getElem_cons_succ, List.getElem_cons_zero, List.setIfInBounds_toArray, List.set_cons_zero, List.set_cons_succ]
    refine wpAnyH_take (i := 11) (v := .int .i64 (e1 : Int)) rfl (by kernel_rfl) (by kernel_rfl) (by kernel_rfl) (fun _ _ _ h => h) (Or.inl ⟨by kernel_rfl, fun u hu => by kernel_rfl⟩) hS ?_
    simp only [Act.put, List.getElem_toArray, List.getElem_cons_succ, List.getElem_cons_zero, List.setIfInBounds_toArray, List.set_cons_zero, List.set_cons_succ]
    refine wpAnyH_take (i := 12) (v := .int .i64 0) rfl (by kernel_rfl) (by kernel_rfl) (by kernel_rfl) (fun _ _ _ h => h) (Or.inl ⟨by kernel_rfl, fun u hu => by kernel_rfl⟩) hS ?_
    simp only [Act.put, List.getElem_toArray, List.getElem_cons_succ, List.getElem_cons_zero, List.setIfInBounds_toArray, List.set_cons_zero, List.set_cons_succ]
    refine wpAnyH_ready (rs := [13]) (by kernel_rfl) (by simp) ?_
    refine AllReadyH.cons rfl (fun K hK => ?_) AllReadyH.nil
    simp only [List.getElem_toArray, List.getElem_cons_succ, List.getElem_cons_zero]
    refine wp_if (by kernel_rfl) ?_
    refine wp_enter (f := 73) (args := #[.pointer (some ⟨rb, 0, none⟩), .int .i64 n, .int .i64 (e1 : Int), .int .i64 0]) (by kernel_rfl) (pnumber_ok rb (.slice ao len cap) (t : Int) n (e1 : Int) bad w1 h1) ?_
    rintro e w2 ⟨rfl, h2, t2⟩
    refine ⟨_, rfl, ?_⟩
    refine hK.out _ _ (h2.cell 0 rfl) (fun hS => ?_)
    clear hK
    simp only [Act.put, List.getElem_toArray, List.getElem_cons_succ, List.getElem_cons_zero, List.setIfInBounds_toArray, List.set_cons_zero, List.set_cons_succ]
    refine wpAnyH_take (i := 14) (v := .int .i64 n) rfl (by kernel_rfl) (by kernel_rfl) (by kernel_rfl) (fun _ _ _ h => h) (Or.inl ⟨by kernel_rfl, fun u hu => by kernel_rfl⟩) hS ?_
    simp only [Act.put, List.getElem_toArray, List.getElem_cons_succ, List.getElem_cons_zero, List.setIfInBounds_toArray, List.set_cons_zero, List.set_cons_succ]
    refine wpAnyH_done (by kernel_rfl) ?_ _
    go_wp2_with fail
    go_ret
    unfold PE
    rw [hm]
    exact ⟨rfl, h2, T1.trans t2⟩

theorem pget (ao : Option Addr) (len cap t s : Nat) (bs : Nat → Int) (w : World) (hr : Row w ao len bs) (hbs : ∀ i, 0 ≤ bs i ∧ bs i < 256) (hl : len ≤ 1048576) (ht : t ≤ 1048576) (hs : s = 1 ∨ s = 2 ∨ s = 4 ∨ s = 8) :
    Calls Tryd.prog 72 #[.slice ao len cap, .int .i64 (t : Int), .int .i64 (s : Int), .bool false] w fun e w' => (∃ n g : Int, e = .returned (.tuple #[.int .i64 n, .int .i64 g]) ∧ ((gN len bs t s = none ∧ g ≠ 0) ∨ (gN len bs t s = some (n, t + s) ∧ g = 0))) ∧ Below w.heap.size w w' := by
  unfold gN
  by_cases h : t + s ≤ len
  · rw [if_pos h]
    refine (get_ok ao len cap t s false bs w hr hbs (by omega) hs h).mono ?_
    rintro e w' ⟨rfl, hb⟩
    exact ⟨⟨_, 0, rfl, .inr ⟨rfl, rfl⟩⟩, hb⟩
  · rw [if_neg h]
    refine (get_end ao len cap (t : Int) (s : Int) false w (by omega) (by omega) (by omega) (.inr (by omega))).mono ?_
    rintro e w' ⟨rfl, hb⟩
    exact ⟨⟨0, 20, rfl, .inl ⟨rfl, by decide⟩⟩, hb⟩
set_option maxRecDepth 10000 in
set_option maxHeartbeats 1000000 in
theorem pfixed_any (rb : Nat) (ao : Option Addr) (len cap t s : Nat) (bs : Nat → Int) (bad : Bool) (w : World) (h : PD w rb (.slice ao len cap) (t : Int) bad) (hr : Row w ao len bs) (hbs : ∀ i, 0 ≤ bs i ∧ bs i < 256) (hl : len ≤ 1048576) (ht : t ≤ 1048576) (hs : s = 1 ∨ s = 2 ∨ s = 4 ∨ s = 8) :
    Calls Tryd.prog 54 #[.pointer (some ⟨rb, 0, none⟩), .int .i64 (s : Int)] w fun e w' => PE (nP (gN len bs t s) t bad) w w' rb (.slice ao len cap) e := by
  have hd : PD w.drew rb (.slice ao len cap) (t : Int) bad := h.of rfl
  have HU := pget ao len cap t s bs w.drew (hr.below ((Below.refl w.heap.size w).drew) (Nat.le_refl _)) hbs hl ht hs
  have T0 : Turn (fun k => k = rb) w w.drew := Turn.of_below ((Below.refl w.heap.size w).drew) _
  have hs8 : (s : Int) ≤ 8 := by omega
  have hti : (t : Int) ≤ 1048576 := by omega
  go_enter Tryd.func54, Tryd.ntmps54
  go_upto_region 1 with fail
  refine wp_region_held_drew (S := fun u => PD u rb (.slice ao len cap) (t : Int) bad) (by kernel_rfl) hd (fun hS => ?_)
  generalize w.drew = W at *
  refine wpAnyH_take (i := 0) (v := .pointer (some ⟨rb, 0, none⟩)) rfl (by kernel_rfl) (by kernel_rfl) (by kernel_rfl) (fun _ _ _ h => h) (Or.inl ⟨by kernel_rfl, fun u hu => by kernel_rfl⟩) hS ?_
  simp only [Act.put, List.getElem_toArray, List.getElem_cons_succ, List.getElem_cons_zero, List.setIfInBounds_toArray, List.set_cons_zero, List.set_cons_succ]
  refine wpAnyH_take (i := 1) (v := .pointer (some ⟨rb, 0, none⟩)) rfl (by kernel_rfl) (by kernel_rfl) (by kernel_rfl) (fun _ _ _ h => h) (Or.inl ⟨by kernel_rfl, fun u hu => by kernel_rfl⟩) hS ?_
  simp only [Act.put, List.getElem_toArray, List.getElem_cons_succ, List.getElem_cons_zero, List.setIfInBounds_toArray, List.set_cons_zero, List.set_cons_succ]
  refine wpAnyH_take (i := 2) (v := .pointer (some ⟨rb, 0, none⟩)) rfl (by kernel_rfl) (by kernel_rfl) (by kernel_rfl) (fun _ _ _ h => h) (Or.inl ⟨by kernel_rfl, fun u hu => by kernel_rfl⟩) hS ?_
  simp only [Act.put, List.getElem_toArray, List.getElem_cons_succ, List.getElem_cons_zero, List.setIfInBounds_toArray, List.set_cons_zero, List.set_cons_succ]
  refine wpAnyH_take (i := 3) (v := .slice ao len cap) rfl (by kernel_rfl) (by kernel_rfl) (by kernel_rfl) (fun _ _ _ h => h) (Or.inl ⟨by kernel_rfl, fun u hu => exec_loadV (t := 64) (p := ⟨rb, 0, none⟩) rfl (by kernel_rfl) (load_bytes (hu.cell 0 rfl))⟩) hS ?_
  simp only [Act.put, List.getElem_toArray, List.getElem_cons_succ, List.getElem_cons_zero, List.setIfInBounds_toArray, List.set_cons_zero, List.set_cons_succ]
  refine wpAnyH_take (i := 4) (v := .pointer (some ⟨rb, 0, none⟩)) rfl (by kernel_rfl) (by kernel_rfl) (by kernel_rfl) (fun _ _ _ h => h) (Or.inl ⟨by kernel_rfl, fun u hu => by kernel_rfl⟩) hS ?_
  simp only [Act.put, List.getElem_toArray, List.getElem_cons_succ, List.getElem_cons_zero, List.setIfInBounds_toArray, List.set_cons_zero, List.set_cons_succ]
  refine wpAnyH_take (i := 5) (v := .pointer (some ⟨rb, 0, none⟩)) rfl (by kernel_rfl) (by kernel_rfl) (by kernel_rfl) (fun _ _ _ h => h) (Or.inl ⟨by kernel_rfl, fun u hu => by kernel_rfl⟩) hS ?_
  simp only [Act.put, List.getElem_toArray, List.getElem_cons_succ, List.getElem_cons_zero, List.setIfInBounds_toArray, List.set_cons_zero, List.set_cons_succ]
  refine wpAnyH_take (i := 6) (v := .pointer (some ⟨rb, 1, none⟩)) rfl (by kernel_rfl) (by kernel_rfl) (by kernel_rfl) (fun _ _ _ h => h) (Or.inl ⟨by kernel_rfl, fun u hu => by kernel_rfl⟩) hS ?_
  simp only [Act.put, List.getElem_toArray, List.getElem_cons_succ, List.getElem_cons_zero, List.setIfInBounds_toArray, List.set_cons_zero, List.set_cons_succ]
  refine wpAnyH_take (i := 7) (v := .int .i64 (t : Int)) rfl (by kernel_rfl) (by kernel_rfl) (by kernel_rfl) (fun _ _ _ h => h) (Or.inl ⟨by kernel_rfl, fun u hu => exec_loadV (t := 3) (p := ⟨rb, 1, none⟩) rfl (by kernel_rfl) (load_i64 (hu.cell 1 rfl))⟩) hS ?_
  simp only [Act.put, List.getElem_toArray, List.getElem_cons_succ, List.getElem_cons_zero, List.setIfInBounds_toArray, List.set_cons_zero, List.set_cons_succ]
  refine wpAnyH_take (i := 8) (v := .int .i64 (s : Int)) rfl (by kernel_rfl) (by kernel_rfl) (by kernel_rfl) (fun _ _ _ h => h) (Or.inl ⟨by kernel_rfl, fun u hu => by kernel_rfl⟩) hS ?_
  simp only [Act.put, List.getElem_toArray, List.getElem_cons_succ, List.getElem_cons_zero, List.setIfInBounds_toArray, List.set_cons_zero, List.set_cons_succ]
  refine wpAnyH_ready (rs := [9]) (by kernel_rfl) (by simp) ?_
  refine AllReadyH.cons rfl (fun K hK => ?_) AllReadyH.nil
  simp only [List.getElem_toArray, List.getElem_cons_succ, List.getElem_cons_zero]
  refine wp_if (by kernel_rfl) ?_
  refine wp_enter (f := 72) (args := #[.slice ao len cap, .int .i64 (t : Int), .int .i64 (s : Int), .bool false]) (by kernel_rfl) HU ?_
  rintro e w1 ⟨⟨n, g, rfl, hng⟩, hb1⟩
  have h1 := hd.bel hb1 hd.lt
  have T1 := T0.trans (Turn.of_below hb1 _)
  refine ⟨_, rfl, ?_⟩
  refine hK.out _ _ h1 (fun hS => ?_)
  clear hK
  simp only [Act.put, List.getElem_toArray, List.getElem_cons_succ, List.getElem_cons_zero, List.setIfInBounds_toArray, List.set_cons_zero, List.set_cons_succ]
  refine wpAnyH_take (i := 10) (v := .tuple #[.int .i64 n, .int .i64 g]) rfl (by kernel_rfl) (by kernel_rfl) (by kernel_rfl) (fun _ _ _ h => h) (Or.inl ⟨by kernel_rfl, fun u hu => by kernel_rfl⟩) hS ?_
  simp only [Act.put, List.getElem_toArray, List.getElem_cons_succ, List.getElem_cons_zero, List.setIfInBounds_toArray, List.set_cons_zero, List.set_cons_succ]
  refine wpAnyH_take (i := 11) (v := .int .i64 n) rfl (by kernel_rfl) (by kernel_rfl) (by kernel_rfl) (fun _ _ _ h => h) (Or.inl ⟨by kernel_rfl, fun u hu => by kernel_rfl⟩) hS ?_
  simp only [Act.put, List.getElem_toArray, List.getElem_cons_succ, List.getElem_cons_zero, List.setIfInBounds_toArray, List.set_cons_zero, List.set_cons_succ]
  refine wpAnyH_take (i := 12) (v := .int .i64 g) rfl (by kernel_rfl) (by kernel_rfl) (by kernel_rfl) (fun _ _ _ h => h) (Or.inl ⟨by kernel_rfl, fun u hu => by kernel_rfl⟩) hS ?_
  simp only [Act.put, List.getElem_toArray, List.getElem_cons_succ, List.getElem_cons_zero, List.setIfInBounds_toArray, List.set_cons_zero, List.set_cons_succ]
  refine wpAnyH_take (i := 13) (v := .int .i64 n) rfl (by kernel_rfl) (by kernel_rfl) (by kernel_rfl) (fun _ _ _ h => h) (Or.inl ⟨by kernel_rfl, fun u hu => by kernel_rfl⟩) hS ?_
  simp only [Act.put, List.getElem_toArray, List.getElem_cons_succ, List.getElem_cons_zero, List.setIfInBounds_toArray, List.set_cons_zero, List.set_cons_succ]
  refine wpAnyH_take (i := 14) (v := .int .i64 g) rfl (by kernel_rfl) (by kernel_rfl) (by kernel_rfl) (fun _ _ _ h => h) (Or.inl ⟨by kernel_rfl, fun u hu => by kernel_rfl⟩) hS ?_
  simp only [Act.put, List.getElem_toArray, List.getElem_cons_succ, List.getElem_cons_zero, List.setIfInBounds_toArray, List.set_cons_zero, List.set_cons_succ]
  refine wpAnyH_done (by kernel_rfl) ?_ _
  have c1 := h1.cell 1 rfl
  have HT1 : Hid _ := ⟨T1⟩
  clear hS hd HU hb1 T0 T1
  rcases hng with ⟨hm, hg⟩ | ⟨hm, rfl⟩
  · have HM : Hid _ := ⟨hm⟩
    have HN : Hid _ := ⟨pnumber_no rb (.slice ao len cap) (t : Int) n ((t : Int) + (s : Int)) g bad w1 h1 hg⟩
    clear h1 hm
    go_wp2_with (go_at_call 73; (with_reducible refine HN.out.mono ?_); rintro e w2 ⟨he, h2, t2⟩; subst he; have H2 : Hid _ := ⟨h2⟩; have HT2 : Hid _ := ⟨t2⟩; clear h2 t2)
    go_ret
    unfold PE
    rw [HM.out]
    exact ⟨rfl, H2.out, HT1.out.trans HT2.out⟩
  · have HM : Hid _ := ⟨hm⟩
    have HN : Hid _ := ⟨pnumber_ok rb (.slice ao len cap) (t : Int) n ((t : Int) + (s : Int)) bad w1 h1⟩
    clear h1 hm
    go_wp2_with (go_at_call 73; (with_reducible refine HN.out.mono ?_); rintro e w2 ⟨he, h2, t2⟩; subst he; have H2 : Hid _ := ⟨h2⟩; have HT2 : Hid _ := ⟨t2⟩; clear h2 t2)
    go_ret
    unfold PE
    rw [HM.out]
    refine ⟨rfl, ?_, HT1.out.trans HT2.out⟩
    have := H2.out
    show PD _ rb _ ((t + s : Nat) : Int) bad
    rw [Int.natCast_add]
    exact this
/-- Eights below the frame's address. -/
def oP (u : Int) (bad : Bool) : Int × Bool := if fitsB u 32 true = true then (-8 * u, bad) else (0, true)
set_option maxRecDepth 10000 in
theorem poffset_any (rb : Nat) (v : Value) (t u : Int) (bad : Bool) (w : World) (h : PD w rb v t bad) :
    Calls Tryd.prog 75 #[.pointer (some ⟨rb, 0, none⟩), .int .i64 u] w fun e w' => e = .returned (.int .i64 (oP u bad).1) ∧ PD w' rb v t (oP u bad).2 ∧ Turn (fun k => k = rb) w w' := by
  have HF : Hid _ := ⟨fits_any u 32 true w⟩
  unfold oP
  cases hf : fitsB u 32 true with
  | false =>
    rw [hf] at HF
    rw [if_neg (by simp)]
    clear hf
    go_enter Tryd.func75, Tryd.ntmps75
    go_wp2_with (first
      | (go_at_call 67; (with_reducible refine HF.out.mono ?_); rintro e wn ⟨he, hwn⟩; subst he; subst wn)
      | (refine wpList_part (g := rb) (off := 2) (val := .bool true) (new := rdC v t true) rfl rfl (by rfl) (by rfl) h (by rw [sizeBool]; rfl) (by show 2 + 1 ≤ 3; omega) (bool_cells true) rfl ?_))
    go_ret
    exact ⟨rfl, h.setR _, turn_set _ _ _⟩
  | true =>
    rw [hf] at HF
    rw [if_pos rfl]
    have hu : -2147483648 ≤ u ∧ u < 2147483648 := by
      unfold fitsB at hf
      simp at hf
      omega
    clear hf
    go_enter Tryd.func75, Tryd.ntmps75
    go_wp2_with (go_at_call 67; (with_reducible refine HF.out.mono ?_); rintro e wn ⟨he, hwn⟩; subst he; subst wn)
    go_ret
    exact ⟨by first | rfl | (simp; done) | (congr 2; omega), h, Turn.refl _ _⟩
end Go.Proofs.YtgldijohpfihaaaDoor
