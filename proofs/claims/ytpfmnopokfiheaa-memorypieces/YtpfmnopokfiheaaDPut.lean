/- The contract of the document's put. -/
import Derived.Test.YtpfmnopokfiheaaDPutP
import Derived.Test.YtpfmnopokfiheaaMEqual
namespace Go.Proofs.Ytpfmnopokfiheaa
open Go.ChangeShapes Go.WideShapes Go.ChangeAt Go.RowKit Go.Maps
set_option linter.unusedVariables false
set_option linter.unusedSimpArgs false

/-- Bytes that lie in memory, beside the document's Memory. -/
structure RSrc (w : World) (rb : Nat) (lv : Value) (pb : Nat → Nat) (L : List Pz) (ao : Option Addr) (bl : List Int) : Prop where
  row : bl = [] ∨ ∃ b off, ao = some ⟨b, off, none⟩ ∧ ¬ RS rb lv pb L b ∧ ∀ i, i < bl.length → w.cell? ⟨b, off + i, none⟩ = some (.int .u8 (bl.getD i 0))
  byte : ∀ y ∈ bl, 0 ≤ y ∧ y < 256

theorem RS_k {rb : Nat} {lv : Value} {pb : Nat → Nat} {L L' : List Pz} (h : L'.map (fun p => p.k) = L.map (fun p => p.k)) {b : Nat} (hb : RS rb lv pb L' b) : RS rb lv pb L b := by
  rcases hb with h1 | h1 | ⟨p, hp, rfl⟩
  · exact .inl h1
  · exact .inr (.inl h1)
  · obtain ⟨q, hq, e⟩ := k_mem h.symm hp
    exact .inr (.inr ⟨q, hq, by rw [e]⟩)
theorem key_k {L L' : List Pz} (h : L'.map (fun p => (p.k, p.may)) = L.map (fun p => (p.k, p.may))) : L'.map (fun p => p.k) = L.map (fun p => p.k) := by
  have := congrArg (List.map Prod.fst) h
  rw [List.map_map, List.map_map] at this
  exact this
theorem putN_key (ys : List Int) : ∀ (L : List Pz) (A : Nat), (putN L A ys).map (fun p => (p.k, p.may)) = L.map (fun p => (p.k, p.may)) := by
  induction ys with
  | nil => intro L A; rfl
  | cons y ys ih => intro L A; exact (ih _ _).trans (wrL_key _ _ _ _)

theorem ix31 (q c : Nat) (x : Int) (hx : x = (c : Int)) (hc : c < 4096) (W : World) : (Instr.indexAt 31 (.slice (some ⟨q, 0, none⟩) 4096 4096) (.int .u64 x)).run Try.prog W = .ok (.pointer (some ⟨q, c, none⟩)) W := by
  subst hx
  have hs := info5'
  cases hq : Try.prog.info? 5 with
  | none => rw [hq] at hs; cases hs
  | some i =>
    have hi1 : i.size = 1 := by rw [hq] at hs; simpa using hs
    simp [Instr.indexAt, run_underlying Try.underlying31, asIntOf, sizeOf, typeInfo, hq, hi1, addr_add]
    omega
theorem ix_src (b o n c j : Nat) (hj : j < n) (W : World) : (Instr.indexAt 31 (.slice (some ⟨b, o, none⟩) n c) (.int .i64 (j : Int))).run Try.prog W = .ok (.pointer (some ⟨b, o + j, none⟩)) W := by
  have hs := info5'
  cases hq : Try.prog.info? 5 with
  | none => rw [hq] at hs; cases hs
  | some i =>
    have hi1 : i.size = 1 := by rw [hq] at hs; simpa using hs
    simp [Instr.indexAt, run_underlying Try.underlying31, asIntOf, sizeOf, typeInfo, hq, hi1, addr_add]
    omega
theorem exec_ix {w : World} {a : Act} {o : Oper} {t : TypeId} {x y : Operand} {vx vy v : Value} (ho : o.op = .indexAddr t x y) (hx : a.eval x = vx) (hy : a.eval y = vy) (hl : (Instr.indexAt t vx vy).run Try.prog w = .ok v w) : (execOp a.eval o).run Try.prog w = .ok (.value v) w := by
  unfold execOp
  simp only [ho, hx, hy, Sem.run_bind, Sem.run_pure, Result.andThen_ok, hl]
theorem load_sl {w : World} {p : Addr} {ao : Option Addr} {n c : Nat} (hc : w.cell? p = some (.slice ao n c)) : (loadVar 31 p).run Try.prog w = .ok (.slice ao n c) w := by
  simp [loadVar, isAgg, run_underlying Try.underlying31, go_sem, hc]
theorem load_u8 {w : World} {p : Addr} {y : Int} (hc : w.cell? p = some (.int .u8 y)) : (loadVar 5 p).run Try.prog w = .ok (.int .u8 y) w := by
  simp [loadVar, isAgg, run_underlying Try.underlying5, go_sem, hc]
theorem wp_store1 {o : Oper} {a : Act} {w : World} {K : Act → World → Prop} {Q : Exit → Act → World → Prop} {x z : Operand} {p : Addr} {y : Int} {v : Value} (ho : o.op = .store 5 x z) (hx : a.eval x = .pointer (some p)) (hy : a.eval z = .int .u8 y) (hc : w.cell? p = some v) (hf : w.frozen? p = false)
    (h : K (a.put o.dst undef) (w.setCell p (.int .u8 y))) : o.wp Try.prog a w K Q := by
  have hs : (storeVar 5 p (.int .u8 y)).run Try.prog w = .ok () (w.setCell p (.int .u8 y)) := by
    simp [storeVar, isAgg, run_underlying Try.underlying5, go_sem, hc, hf]
  unfold Oper.wp execOp
  simp only [ho, hx, hy, Instr.storeAt, Instr.sureAddr, Sem.run_bind, Sem.run_pure, Result.andThen_ok, hs]
  exact h
theorem up_st {w : World} {b o q k : Nat} {v u : Value} (h : w.cell? ⟨b, o, none⟩ = some v) (hne : b ≠ q) : (w.setCell ⟨q, k, none⟩ u).cell? ⟨b, o, none⟩ = some v := by
  have e : (w.setCell ⟨q, k, none⟩ u).heap[b]? = w.heap[b]? := Below.heap_setCell _ _ _ _ (by simpa using hne)
  simp only [World.cell?, e] at h ⊢
  exact h

set_option maxHeartbeats 2000000 in
set_option maxRecDepth 10000 in
theorem rput_any (rb a cap : Nat) (so : Int) (ao : Option Addr) (bl : List Int) (lv : Value) (pb : Nat → Nat) (L : List Pz) (w : World) (h : RA w rb lv pb L) (ha : a < 18446744073709551616) (hL : L.length ≤ 1048576) (hn : bl.length ≤ 1048576) (hr : reachB L so a bl.length = true) (hs : RSrc w rb lv pb L ao bl) :
    Calls Try.prog 57 #[.pointer (some ⟨rb, 0, none⟩), .int .u64 a, .slice ao bl.length cap] w fun e w' => e = .returned (.tuple #[]) ∧ RA w' rb lv pb (putN L a bl) ∧ Turn (RS rb lv pb L) w w' := by
  have HT : Hid (∀ j, j < bl.length → (fnd L ((a + j) / 4096)).isSome = true) := ⟨reach_there hr⟩
  have HTop : Hid (0 < bl.length → a + bl.length ≤ 140737488355328) := ⟨fun h0 => Classical.byContradiction fun c => by rw [reach_top h.mz h0 (by omega)] at hr; cases hr⟩
  have HM : Hid _ := ⟨h⟩
  have HS : Hid _ := ⟨hs⟩
  obtain ⟨R, HR⟩ : ∃ R, Hid (putN L a bl = R) := ⟨_, ⟨rfl⟩⟩
  rw [HR.out]
  obtain ⟨n, hnn⟩ : ∃ n, bl.length = n := ⟨_, rfl⟩
  have Hnn : Hid _ := ⟨hnn⟩
  rw [hnn] at hn ⊢
  clear h hr hs hnn
  go_enter Try.func57, Try.ntmps57
  go_wp2
  go_loopw [1, 6, 7] (fun u1 u6 _ wr => ∃ A j : Nat, j ≤ n ∧ u1 = .int .u64 A ∧ u6 = .int .i64 j ∧ Hid (A = a + j ∧ ∃ M, RA wr rb lv pb M ∧ M.map (fun p => p.k) = L.map (fun p => p.k) ∧ Turn (RS rb lv pb L) w wr ∧ putN M A (bl.drop j) = R)) (fun _ u6 _ _ => n - (intOf u6).toNat)
  case atStart => exact ⟨a, 0, by omega, rfl, rfl, ⟨rfl, L, HM.out, rfl, Turn.refl _ _, by rw [List.drop_zero]; exact HR.out⟩⟩
  case round =>
    obtain ⟨A, j, hj, rfl, rfl, HW⟩ := hrel
    obtain ⟨hA, M, hra, hkk, htu, hR⟩ := HW.out
    by_cases hjn : j < n
    · have hbl := Hnn.out
      have htop := HTop.out (by omega)
      obtain ⟨sb, so', hao, hsb, hcell⟩ : ∃ b off, ao = some ⟨b, off, none⟩ ∧ ¬ RS rb lv pb L b ∧ ∀ i, i < bl.length → w.cell? ⟨b, off + i, none⟩ = some (.int .u8 (bl.getD i 0)) := by
        rcases HS.out.row with h | h
        · rw [h] at hbl; simp at hbl; omega
        · exact h
      subst hao
      have hcj := hcell j (by omega)
      have hsl : sb < w.heap.size := World.block_lt_of_cell? _ _ hcj
      have hcj' : wr.cell? ⟨sb, so' + j, none⟩ = some (.int .u8 (bl.getD j 0)) := by
        have : wr.heap[sb]? = w.heap[sb]? := htu.block sb hsl hsb
        simp only [World.cell?, this] at hcj ⊢
        exact hcj
      have hlenM : M.length = L.length := by simpa using congrArg List.length hkk
      have hT := HT.out j (by omega)
      rw [← fnd_k hkk, ← hA] at hT
      obtain ⟨p, hp⟩ := Option.isSome_iff_exists.1 hT
      obtain ⟨hpm, hpk⟩ := fnd_mem hp
      obtain ⟨hi, hpi⟩ := fix_some hra.mz.up hp
      obtain ⟨b, cp, hv, hcap1, hcap2, c0, c1, c2⟩ := hra.at' hi
      rw [hpi] at c0 c1 c2
      have cl := hra.rcell
      have hF : ∀ W, Below wr.heap.size wr W → Calls Try.prog 58 #[.pointer (some ⟨rb, 0, none⟩), .int .u64 A] W _ := fun W hW => find_any rb A lv pb M W (hra.below hW) (by omega) (by omega)
      obtain ⟨i, hii⟩ : ∃ i, fix M (A / 4096) = i := ⟨_, rfl⟩
      simp only [hii] at hF c0 c1 c2
      rw [hii] at hi
      subst hv
      obtain ⟨x, hx⟩ : ∃ x : Int, (A : Int) = x := ⟨_, rfl⟩
      simp only [hx] at hF
      rw [hx]
      have x0 : 0 ≤ x := by omega
      have x1 : x + 1 ≤ 140737488355328 := by omega
      have i1 : (i : Int) < (M.length : Int) := by omega
      have j1 : (j : Int) < (n : Int) := by omega
      have n1 : (n : Int) ≤ 1048576 := by omega
      obtain ⟨c, hc⟩ : ∃ c, c = A % 4096 := ⟨_, rfl⟩
      obtain ⟨z, hz⟩ : ∃ z : Int, x % 4096 = z := ⟨_, rfl⟩
      have r0 : 0 ≤ z := by omega
      have r1 : z < 4096 := by omega
      have HCX : Hid (z.toNat = c) := ⟨by omega⟩
      have hcm : x.tmod 4096 = (c : Int) := by rw [Int.tmod_eq_emod_of_nonneg x0]; omega
      have hc4 : c < 4096 := by omega
      obtain ⟨y, hy⟩ : ∃ y, y = bl.getD j 0 := ⟨_, rfl⟩
      rw [← hy] at hcj'
      have hy2 : 0 ≤ y ∧ y < 256 := by rw [hy]; exact getD_byte HS.out.byte j
      have hdr : bl.drop j = y :: bl.drop (j + 1) := by
        rw [List.drop_eq_getElem_cons (by omega), hy]
        simp [show j < bl.length by omega]
      have hpb : pb p.k < wr.heap.size := hra.blt hpm
      have hfz : wr.frozen? ⟨pb p.k, c, none⟩ = false := hra.bfrz hpm (by omega)
      have hbc := hra.bcell hpm (i := c) (by omega)
      obtain ⟨oy, hoy⟩ : ∃ oy, oy = p.B.getD c 0 := ⟨_, rfl⟩
      rw [← hoy] at hbc
      have HF2 : Hid _ := ⟨hF⟩
      have HRA : Hid _ := ⟨hra⟩
      have HTu : Hid _ := ⟨htu⟩
      have HP : Hid (p ∈ M ∧ p.k = A / 4096 ∧ c = A % 4096 ∧ A = a + j ∧ (A : Int) = x ∧ (0 ≤ y ∧ y < 256) ∧ bl.drop j = y :: bl.drop (j + 1) ∧ M.map (fun p => p.k) = L.map (fun p => p.k) ∧ putN M A (bl.drop j) = R) := ⟨hpm, hpk, hc, hA, hx, hy2, hdr, hkk, hR⟩
      have hsp : sb ≠ pb p.k := fun e => hsb (RS_k hkk (.inr (.inr ⟨p, hpm, e⟩)))
      generalize ((p.k * 4096 : Nat) : Int) = pa at *
      clear hF hra htu hpm hpk hc hA hx hy hy2 hdr hkk hR hii hpi hi hT hp HW hcj hcell hoy hbl htop hlenM
      go_upto_region 3 with (fail)
      go_region_held3 (fun v => v.cell? ⟨rb, 0, none⟩ = some (.slice (some ⟨b, 0, none⟩) M.length cp) ∧ v.cell? ⟨b, i * 3, none⟩ = some (.int .u64 pa) ∧ v.cell? ⟨b, i * 3 + 1, none⟩ = some (.int .i64 p.may) ∧ v.cell? ⟨b, i * 3 + 2, none⟩ = some (.slice (some ⟨pb p.k, 0, none⟩) 4096 4096))
          (first | (with_reducible assumption) | exact ⟨cl, c0, c1, c2⟩ | (refine ⟨?_, ?_, ?_, ?_⟩ <;> first | (with_reducible assumption) | exact up_al (by with_reducible assumption) | exact up_dr (by with_reducible assumption)) | exact cl | exact c0 | exact c1 | exact c2 | exact up_al (by with_reducible assumption) | exact up_al (up_dr (by with_reducible assumption)) | exact up_dr (by with_reducible assumption))
          (first | (go_at_call 58; (with_reducible refine (HF2.out _ (by first | exact (Below.refl _ _).drew | exact ((Below.refl _ wr).alloc (Nat.le_refl _) _).drew)).mono ?_); rintro e wp ⟨he, hwp⟩; subst he; subst hwp))
      all_goals
        have s2 : (wr.alloc (.cells #[.int .u64 pa, .int .i64 p.may, .slice (some ⟨pb p.k, 0, none⟩) 4096 4096] 78)).drew.cell? ⟨wr.heap.size, 2, none⟩ = some (.slice (some ⟨pb p.k, 0, none⟩) 4096 4096) := by
          show (wr.alloc (.cells #[.int .u64 pa, .int .i64 p.may, .slice (some ⟨pb p.k, 0, none⟩) 4096 4096] 78)).cell? ⟨wr.heap.size, 2, none⟩ = _
          simp
        have B1 : Below wr.heap.size wr (wr.alloc (.cells #[.int .u64 pa, .int .i64 p.may, .slice (some ⟨pb p.k, 0, none⟩) 4096 4096] 78)).drew := ((Below.refl _ wr).alloc (Nat.le_refl _) _).drew
        have k1 := (B1.cell (p := ⟨sb, so' + j, none⟩) (World.block_lt_of_cell? _ _ hcj')).trans hcj'
        have k2 := (B1.cell (p := ⟨pb p.k, c, none⟩) hpb).trans hbc
        have k3 := (B1.frozen (p := ⟨pb p.k, c, none⟩) hpb).trans hfz
        have HBz : Hid (Below wr.heap.size wr (wr.alloc (.cells #[.int .u64 pa, .int .i64 p.may, .slice (some ⟨pb p.k, 0, none⟩) 4096 4096] 78)).drew) := ⟨B1⟩
        generalize (wr.alloc (.cells #[.int .u64 pa, .int .i64 p.may, .slice (some ⟨pb p.k, 0, none⟩) 4096 4096] 78)).drew = W1 at *
        obtain ⟨zb, hzb⟩ : ∃ zb, wr.heap.size = zb := ⟨_, rfl⟩
        rw [hzb] at s2 hpb ⊢
        clear hzb
        clear cl c0 c1 c2 B1 hcj' hbc hfz
        go_wp2
        refine wp_region_held_drew (S := fun v => v.cell? ⟨zb, 2, none⟩ = some (.slice (some ⟨pb p.k, 0, none⟩) 4096 4096) ∧ v.cell? ⟨sb, so' + j, none⟩ = some (.int .u8 y)) (by kernel_rfl) ⟨s2, k1⟩ (fun hS => ?_)
        refine wpAnyH_take (i := 0) (v := .pointer (some ⟨zb, 2, none⟩)) rfl (by kernel_rfl) (by kernel_rfl) (by kernel_rfl) (fun _ _ _ h => h) (Or.inl ⟨by kernel_rfl, fun u hu => by kernel_rfl⟩) hS ?_
        simp only [Act.put, List.getElem_toArray, List.getElem_cons_succ, List.getElem_cons_zero, List.setIfInBounds_toArray, List.set_cons_zero, List.set_cons_succ]
        refine wpAnyH_take (i := 1) (v := .slice (some ⟨pb p.k, 0, none⟩) 4096 4096) rfl (by kernel_rfl) (by kernel_rfl) (by kernel_rfl) (fun _ _ _ h => h) (Or.inl ⟨by kernel_rfl, fun u hu => exec_loadV (t := 31) (p := ⟨zb, 2, none⟩) rfl (by kernel_rfl) (load_sl hu.1)⟩) hS ?_
        simp only [Act.put, List.getElem_toArray, List.getElem_cons_succ, List.getElem_cons_zero, List.setIfInBounds_toArray, List.set_cons_zero, List.set_cons_succ]
        refine wpAnyH_take (i := 2) (v := .int .u64 x) rfl (by kernel_rfl) (by kernel_rfl) (by kernel_rfl) (fun _ _ _ h => h) (Or.inl ⟨by kernel_rfl, fun u hu => by kernel_rfl⟩) hS ?_
        simp only [Act.put, List.getElem_toArray, List.getElem_cons_succ, List.getElem_cons_zero, List.setIfInBounds_toArray, List.set_cons_zero, List.set_cons_succ]
        refine wpAnyH_take (i := 3) (v := .int .u64 (x.tmod 4096)) rfl (by kernel_rfl) (by kernel_rfl) (by kernel_rfl) (fun _ _ _ h => h) (Or.inl ⟨by kernel_rfl, fun u hu => by kernel_rfl⟩) hS ?_
        simp only [Act.put, List.getElem_toArray, List.getElem_cons_succ, List.getElem_cons_zero, List.setIfInBounds_toArray, List.set_cons_zero, List.set_cons_succ]
        refine wpAnyH_take (i := 4) (v := .slice (some ⟨sb, so', none⟩) n cap) rfl (by kernel_rfl) (by kernel_rfl) (by kernel_rfl) (fun _ _ _ h => h) (Or.inl ⟨by kernel_rfl, fun u hu => by kernel_rfl⟩) hS ?_
        simp only [Act.put, List.getElem_toArray, List.getElem_cons_succ, List.getElem_cons_zero, List.setIfInBounds_toArray, List.set_cons_zero, List.set_cons_succ]
        refine wpAnyH_take (i := 5) (v := .int .i64 (j : Int)) rfl (by kernel_rfl) (by kernel_rfl) (by kernel_rfl) (fun _ _ _ h => h) (Or.inl ⟨by kernel_rfl, fun u hu => by kernel_rfl⟩) hS ?_
        simp only [Act.put, List.getElem_toArray, List.getElem_cons_succ, List.getElem_cons_zero, List.setIfInBounds_toArray, List.set_cons_zero, List.set_cons_succ]
        refine wpAnyH_take (i := 6) (v := .pointer (some ⟨sb, so' + j, none⟩)) rfl (by kernel_rfl) (by kernel_rfl) (by kernel_rfl) (fun _ _ _ h => h) (Or.inl ⟨by kernel_rfl, fun u hu => exec_ix rfl (by kernel_rfl) (by kernel_rfl) (ix_src sb so' n cap j hjn u)⟩) hS ?_
        simp only [Act.put, List.getElem_toArray, List.getElem_cons_succ, List.getElem_cons_zero, List.setIfInBounds_toArray, List.set_cons_zero, List.set_cons_succ]
        refine wpAnyH_take (i := 7) (v := .int .u8 y) rfl (by kernel_rfl) (by kernel_rfl) (by kernel_rfl) (fun _ _ _ h => h) (Or.inl ⟨by kernel_rfl, fun u hu => exec_loadV (t := 5) (p := ⟨sb, so' + j, none⟩) rfl (by kernel_rfl) (load_u8 hu.2)⟩) hS ?_
        simp only [Act.put, List.getElem_toArray, List.getElem_cons_succ, List.getElem_cons_zero, List.setIfInBounds_toArray, List.set_cons_zero, List.set_cons_succ]
        refine wpAnyH_take (i := 8) (v := .pointer (some ⟨pb p.k, c, none⟩)) rfl (by kernel_rfl) (by kernel_rfl) (by kernel_rfl) (fun _ _ _ h => h) (Or.inl ⟨by kernel_rfl, fun u hu => exec_ix rfl (by kernel_rfl) (by kernel_rfl) (ix31 (pb p.k) c (x.tmod 4096) hcm hc4 u)⟩) hS ?_
        simp only [Act.put, List.getElem_toArray, List.getElem_cons_succ, List.getElem_cons_zero, List.setIfInBounds_toArray, List.set_cons_zero, List.set_cons_succ]
        refine wpAnyH_ready (rs := [9]) (by kernel_rfl) (by simp) ?_
        refine AllReadyH.cons rfl (fun K hK => ?_) AllReadyH.nil
        simp only [List.getElem_toArray, List.getElem_cons_succ, List.getElem_cons_zero]
        refine wp_if (by kernel_rfl) ?_
        refine wp_store1 (p := ⟨pb p.k, c, none⟩) (y := y) rfl (by kernel_rfl) (by kernel_rfl) (up_dr k2) k3 ?_
        refine hK.out _ _ ⟨up_st (up_dr s2) (by omega), up_st (up_dr k1) hsp⟩ (fun _ => ?_)
        clear hK
        simp only [Act.put, List.getElem_toArray, List.getElem_cons_succ, List.getElem_cons_zero, List.setIfInBounds_toArray, List.set_cons_zero, List.set_cons_succ]
        refine wpAnyH_done (by kernel_rfl) ?_ _
        go_wp2_with fail
        obtain ⟨hpm, hpk, hc, hA, hx, hy2, hdr, hkk, hR⟩ := HP.out
        have t1 := (HRA.out.below HBz.out).wr hpm hc4 hy2
        have t2 := ((HTu.out.trans (Turn.of_below HBz.out _)).setCell ⟨pb p.k, c, none⟩ (.inl (RS_k hkk (.inr (.inr ⟨p, hpm, rfl⟩)))) (.int .u8 y)).trans (Turn.of_below ((Below.refl _ _).drew) _)
        refine ⟨⟨A + 1, j + 1, by omega, by simp only [Value.int.injEq, true_and]; omega, by simp only [Value.int.injEq, true_and]; omega, ⟨by omega, wrL M p.k c [y], t1.below ((Below.refl _ _).drew), (key_k (wrL_key _ _ _ _)).trans hkk, t2, ?_⟩⟩, by simp only [intOf]; omega⟩
        rw [hdr] at hR
        rw [hpk, hc]
        exact hR
    · obtain rfl : j = n := by omega
      have HR2 : Hid (M = R) := ⟨by rw [← hR, List.drop_eq_nil_of_le (by rw [Hnn.out]; omega)]; rfl⟩
      have HA2 : Hid _ := ⟨hra⟩
      have HT2 : Hid _ := ⟨htu⟩
      clear hra htu hR hkk hA HW
      go_wp2
      go_end0
      exact ⟨rfl, by rw [← HR2.out]; exact HA2.out, HT2.out⟩
end Go.Proofs.Ytpfmnopokfiheaa
