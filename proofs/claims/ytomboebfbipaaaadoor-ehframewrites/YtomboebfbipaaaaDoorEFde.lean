/- A function's entry is written. -/
import Derived.Test.YtomboebfbipaaaaDoorETabX
namespace Go.Proofs.YtomboebfbipaaaaDoor
open Go.ChangeShapes Go.WideShapes Go.ChangeAt Go.RowKit Go.Maps
set_option linter.unusedVariables false
set_option linter.unusedSimpArgs false

/-- Bytes, copied behind a row of the call's own; at least one. -/
theorem wp_app {o : Oper} {a : Act} {w : World} {K : Act → World → Prop} {Q : Exit → Act → World → Prop} {s x : Operand} (ho : o.op = .call { callee := .builtin .append, args := #[s, x], argTypes := #[24, 24] })
    {base : Nat} {v u : Value} {l m : List Int} (hs : a.eval s = v) (hx : a.eval x = u) (hown : Own w base v l) (hb : Bt w u m) (hm : 1 ≤ m.length) (hn : l.length + m.length ≤ 140737488355328) (hbase : base ≤ w.heap.size)
    (h : ∀ v' w', AE base w v w' v' (l ++ m) → K (a.put o.dst v') w') : o.wp Tryd.prog a w K Q := by
  obtain ⟨ao, c, rfl, hr, hnil⟩ := hb
  obtain ⟨i0, hi, hz0, hz1, hz2⟩ := info_parts info5
  cases ao with
  | none => have := (hnil rfl).1; omega
  | some ad =>
    obtain ⟨v', w', hrun, h2, h3, h4, h5⟩ := run_append_own_at (P := Tryd.prog) w base 24 o.type 5 i0 _ 1 1 Tryd.underlying24 hi hz0 hz1 hz2 rfl (by decide) v l.length _ hown ad m.length c (m.map (Value.int .u8)) (by simp) (by
      intro j u hj
      by_cases hjm : j < m.length
      · rcases hr with hr | ⟨b, off, e, hc⟩
        · omega
        · cases e
          rw [caddr_add, hc j hjm]
          simp [hjm] at hj
          simp [hjm, hj]
      · simp [hjm] at hj) (by
      intro u hu
      simp at hu
      obtain ⟨z, _, rfl⟩ := hu
      rfl) (by unfold maxLen; omega) (by omega) hbase
    unfold Oper.wp execOp
    simp only [ho, resolve, invoke, builtin, Sem.run_bind, Sem.run_pure, Result.andThen_ok, List.map_toArray, List.map_cons, List.map_nil, hs, hx, hrun]
    refine h v' w' ⟨?_, h3, ?_⟩
    · unfold Own
      simpa using h2
    · rcases h5 with e | e
      · exact .inl e
      · exact .inr fun k hk => by rw [e] at hk; simp at hk; omega
theorem build_0 {o : Oper} {a : Act} (w : World) (ho : o.op = .buildSlice 24 1 #[(0, .const (.int .u8 0))]) :
    (execOp a.eval o).run Tryd.prog w = .ok (.value (.slice (some ⟨w.heap.size, 0, none⟩) 1 1)) (w.alloc (.cells #[.int .u8 0] 5)) := by
  unfold execOp
  simp only [ho]
  kernel_rfl
theorem putF_len {f n : Int} (hf : fOk f = true) (h : holdB f n = true) : 1 ≤ (putF f n).length ∧ (putF f n).length ≤ 10 := by
  have ha : awayB n = false := by unfold holdB at h; simp at h; exact h.1
  have := away_of ha
  unfold putF
  split
  · split
    · exact ⟨sl_len_pos _, sl_len10 _ (by omega)⟩
    · exact ⟨ul_len_pos _, ul_len10 _ (by omega)⟩
  · rw [pl_len]; have := size_of f; omega
theorem putL_len {enc v at' data : Int} (h : putE enc v at' data = 0) : 1 ≤ (putL enc v at' data).length ∧ (putL enc v at' data).length ≤ 10 := by
  unfold putL
  rw [if_pos h]
  unfold putE at h
  split at h
  · cases h
  · split at h
    · cases h
    · split at h
      · cases h
      · rename_i h1 h2 h3
        have he : encB enc = true := by simpa using h1
        exact putF_len (enc_of he).1 (by simpa using h3)
/-- What becomes of the bytes with a function's entry behind them; none: a pointer does not fit. -/
def fdeM (addr enc : Int) (place : Nat) (x : Fe) (L : List Int) : Option (List Int) :=
  if putE enc x.beg (addr + ((L.length : Int) + 4) + 4) 0 ≠ 0 then none else if putE (enc % 16) x.size 0 0 ≠ 0 then none
  else some (L ++ recB ((L.length : Int) + 4 - (place : Int)) (putL enc x.beg (addr + ((L.length : Int) + 4) + 4) 0 ++ putL (enc % 16) x.size 0 0 ++ [0]) x.ops)
def FdeEnd (base : Nat) (w : World) (tb : Nat) (addr : Int) (L : List Int) (v : Value) (m : Option (List Int)) (e : Ending) (w' : World) : Prop :=
  match m with
  | none => e = .returned (.bool false) ∧ Below w.heap.size w w'
  | some L' => e = .returned (.bool true) ∧ ∃ v', WA base w' tb addr L' v' ∧ WK w w' tb v v'

set_option maxHeartbeats 8000000 in
set_option maxRecDepth 10000 in
theorem fde_any {base : Nat} {w : World} {tb : Nat} {addr : Int} {L : List Int} {v : Value} (hA : WA base w tb addr L v) (hL : L.length ≤ 1000000000000000) (h0 : 0 ≤ addr) (h1 : addr ≤ 576460752303423488) (x : Fe) (enc : Int) (he0 : 0 ≤ enc) (he1 : enc ≤ 255) (place : Nat) (hp : place ≤ L.length) (hp2 : L.length - place < 4294967200)
    (a : Option Addr) (cp : Nat) (hl : x.ops.length ≤ 5864062014634) (hI : IsOq w a cp x.ops) (hf : Fz w) (hbase : base ≤ w.heap.size) :
    Calls Tryd.prog 41 #[.pointer (some ⟨tb, 0, none⟩), .agg #[.int .i64 x.cie, .int .i64 x.beg, .int .i64 x.size, .slice a x.ops.length cp], .int .i64 enc, .int .i64 (place : Int)] w (FdeEnd base w tb addr L v (fdeM addr enc place x L)) := by
  have HP1 : Hid _ := ⟨fun w => pput enc x.beg (addr + ((L.length : Int) + 4) + 4) 0 w (by omega) (by omega)⟩
  have HP2 : Hid _ := ⟨fun w => pput (enc % 16) x.size 0 0 w (by omega) (by omega)⟩
  have HL1 : Hid _ := ⟨fun h => putL_len (enc := enc) (v := x.beg) (at' := addr + ((L.length : Int) + 4) + 4) (data := 0) h⟩
  have HL2 : Hid _ := ⟨fun h => putL_len (enc := enc % 16) (v := x.size) (at' := 0) (data := 0) h⟩
  unfold fdeM
  generalize putL enc x.beg (addr + ((L.length : Int) + 4) + 4) 0 = l1 at *
  generalize putL (enc % 16) x.size 0 0 = l2 at *
  generalize putE enc x.beg (addr + ((L.length : Int) + 4) + 4) 0 = E1 at *
  generalize putE (enc % 16) x.size 0 0 = E2 at *
  have K0 := Bk.new w #[.int .i64 x.cie, .int .i64 x.beg, .int .i64 x.size, .slice a x.ops.length cp] 57
  have hb0 : Below w.heap.size w (w.alloc (.cells #[.int .i64 x.cie, .int .i64 x.beg, .int .i64 x.size, .slice a x.ops.length cp] 57)) := (Below.refl _ _).alloc (Nat.le_refl _) _
  have T0 := hA.bk.bel hb0 hA.bk.lt
  have hsz : Hid ((w.alloc (.cells #[.int .i64 x.cie, .int .i64 x.beg, .int .i64 x.size, .slice a x.ops.length cp] 57)).heap.size = w.heap.size + 1) := ⟨by simp⟩
  have k1 := T0.cell 1 rfl
  have HA : Hid _ := ⟨hA⟩
  have HI : Hid _ := ⟨hI⟩
  have HF : Hid _ := ⟨hf⟩
  clear hA hI hf
  go_enter Tryd.func41, Tryd.ntmps41
  go_upto_region 2 with (fail)
  have KX := K0
  have KT := T0
  have HB0 : Hid _ := ⟨hb0⟩
  clear K0 T0 hb0 k1
  generalize (w.alloc (.cells #[.int .i64 x.cie, .int .i64 x.beg, .int .i64 x.size, .slice a x.ops.length cp] 57)) = w0 at *
  refine wp_region_held_drew (S := fun u => Bk u w.heap.size 57 #[.int .i64 x.cie, .int .i64 x.beg, .int .i64 x.size, .slice a x.ops.length cp] ∧ Bk u tb 81 #[.int .i64 addr, .int .i64 (L.length : Int), v]) (by kernel_rfl) ⟨⟨KX.hp⟩, ⟨KT.hp⟩⟩ (fun hS => ?_)
  refine wpAnyH_take (i := 0) (v := .int .i64 enc) rfl (by kernel_rfl) (by kernel_rfl) (by kernel_rfl) (fun _ _ _ h => h) (Or.inl ⟨by kernel_rfl, fun u hu => by kernel_rfl⟩) hS ?_
  simp only [Act.put, List.getElem_toArray, List.getElem_cons_succ, List.getElem_cons_zero, List.setIfInBounds_toArray, List.set_cons_zero, List.set_cons_succ]
  refine wpAnyH_take (i := 1) (v := .pointer (some ⟨w.heap.size, 1, none⟩)) rfl (by kernel_rfl) (by kernel_rfl) (by kernel_rfl) (fun _ _ _ h => h) (Or.inl ⟨by kernel_rfl, fun u hu => by kernel_rfl⟩) hS ?_
  simp only [Act.put, List.getElem_toArray, List.getElem_cons_succ, List.getElem_cons_zero, List.setIfInBounds_toArray, List.set_cons_zero, List.set_cons_succ]
  refine wpAnyH_take (i := 2) (v := .int .i64 x.beg) rfl (by kernel_rfl) (by kernel_rfl) (by kernel_rfl) (fun _ _ _ h => h) (Or.inl ⟨by kernel_rfl, fun u hu => exec_loadV (t := 3) (p := ⟨w.heap.size, 1, none⟩) rfl (by kernel_rfl) (load_i64 (hu.1.cell 1 rfl))⟩) hS ?_
  simp only [Act.put, List.getElem_toArray, List.getElem_cons_succ, List.getElem_cons_zero, List.setIfInBounds_toArray, List.set_cons_zero, List.set_cons_succ]
  refine wpAnyH_take (i := 3) (v := .pointer (some ⟨tb, 0, none⟩)) rfl (by kernel_rfl) (by kernel_rfl) (by kernel_rfl) (fun _ _ _ h => h) (Or.inl ⟨by kernel_rfl, fun u hu => by kernel_rfl⟩) hS ?_
  simp only [Act.put, List.getElem_toArray, List.getElem_cons_succ, List.getElem_cons_zero, List.setIfInBounds_toArray, List.set_cons_zero, List.set_cons_succ]
  refine wpAnyH_take (i := 4) (v := .pointer (some ⟨tb, 0, none⟩)) rfl (by kernel_rfl) (by kernel_rfl) (by kernel_rfl) (fun _ _ _ h => h) (Or.inl ⟨by kernel_rfl, fun u hu => by kernel_rfl⟩) hS ?_
  simp only [Act.put, List.getElem_toArray, List.getElem_cons_succ, List.getElem_cons_zero, List.setIfInBounds_toArray, List.set_cons_zero, List.set_cons_succ]
  refine wpAnyH_take (i := 5) (v := .pointer (some ⟨tb, 0, none⟩)) rfl (by kernel_rfl) (by kernel_rfl) (by kernel_rfl) (fun _ _ _ h => h) (Or.inl ⟨by kernel_rfl, fun u hu => by kernel_rfl⟩) hS ?_
  simp only [Act.put, List.getElem_toArray, List.getElem_cons_succ, List.getElem_cons_zero, List.setIfInBounds_toArray, List.set_cons_zero, List.set_cons_succ]
  refine wpAnyH_take (i := 6) (v := .int .i64 addr) rfl (by kernel_rfl) (by kernel_rfl) (by kernel_rfl) (fun _ _ _ h => h) (Or.inl ⟨by kernel_rfl, fun u hu => exec_loadV (t := 3) (p := ⟨tb, 0, none⟩) rfl (by kernel_rfl) (load_i64 (hu.2.cell 0 rfl))⟩) hS ?_
  simp only [Act.put, List.getElem_toArray, List.getElem_cons_succ, List.getElem_cons_zero, List.setIfInBounds_toArray, List.set_cons_zero, List.set_cons_succ]
  refine wpAnyH_take (i := 7) (v := .int .i64 ((L.length : Int) + 4)) rfl (by kernel_rfl) (by kernel_rfl) (by kernel_rfl) (fun _ _ _ h => h) (Or.inl ⟨by kernel_rfl, fun u hu => by kernel_rfl⟩) hS ?_
  simp only [Act.put, List.getElem_toArray, List.getElem_cons_succ, List.getElem_cons_zero, List.setIfInBounds_toArray, List.set_cons_zero, List.set_cons_succ]
  refine wpAnyH_take (i := 8) (v := .int .i64 (addr + ((L.length : Int) + 4))) rfl (by kernel_rfl) (by kernel_rfl) (by kernel_rfl) (fun _ _ _ h => h) (Or.inl ⟨by kernel_rfl, fun u hu => exec_add rfl (by kernel_rfl) (by kernel_rfl) (by omega) (by omega)⟩) hS ?_
  simp only [Act.put, List.getElem_toArray, List.getElem_cons_succ, List.getElem_cons_zero, List.setIfInBounds_toArray, List.set_cons_zero, List.set_cons_succ]
  refine wpAnyH_take (i := 9) (v := .int .i64 (addr + ((L.length : Int) + 4) + 4)) rfl (by kernel_rfl) (by kernel_rfl) (by kernel_rfl) (fun _ _ _ h => h) (Or.inl ⟨by kernel_rfl, fun u hu => exec_add rfl (by kernel_rfl) (by kernel_rfl) (by omega) (by omega)⟩) hS ?_
  simp only [Act.put, List.getElem_toArray, List.getElem_cons_succ, List.getElem_cons_zero, List.setIfInBounds_toArray, List.set_cons_zero, List.set_cons_succ]
  refine wpAnyH_ready (rs := [10]) (by kernel_rfl) (by simp) ?_
  refine AllReadyH.cons rfl (fun K hK => ?_) AllReadyH.nil
  simp only [List.getElem_toArray, List.getElem_cons_succ, List.getElem_cons_zero]
  refine wp_if (by kernel_rfl) ?_
  refine wp_enter (f := 6) (args := #[.int .i64 enc, .int .i64 x.beg, .int .i64 (addr + ((L.length : Int) + 4) + 4), .int .i64 0]) (by kernel_rfl) (HP1.out _) ?_
  rintro e w2 ⟨u1, rfl, ho1, hb1⟩
  refine ⟨_, rfl, ?_⟩
  have H2 : Hid (Own w2 w0.heap.size u1 l1 ∧ Below w0.heap.size w0 w2) := ⟨ho1, (Below.refl _ _).drew.trans hb1⟩
  refine hK.out _ _ ⟨KX.bel H2.out.2 KX.lt, KT.bel H2.out.2 KT.lt⟩ (fun hS => ?_)
  clear hK ho1 hb1
  simp only [Act.put, List.getElem_toArray, List.getElem_cons_succ, List.getElem_cons_zero, List.setIfInBounds_toArray, List.set_cons_zero, List.set_cons_succ]
  refine wpAnyH_take (i := 11) (v := .tuple #[u1, .int .i64 E1]) rfl (by kernel_rfl) (by kernel_rfl) (by kernel_rfl) (fun _ _ _ h => h) (Or.inl ⟨by kernel_rfl, fun u hu => by kernel_rfl⟩) hS ?_
  simp only [Act.put, List.getElem_toArray, List.getElem_cons_succ, List.getElem_cons_zero, List.setIfInBounds_toArray, List.set_cons_zero, List.set_cons_succ]
  refine wpAnyH_take (i := 12) (v := u1) rfl (by kernel_rfl) (by kernel_rfl) (by kernel_rfl) (fun _ _ _ h => h) (Or.inl ⟨by kernel_rfl, fun u hu => by kernel_rfl⟩) hS ?_
  simp only [Act.put, List.getElem_toArray, List.getElem_cons_succ, List.getElem_cons_zero, List.setIfInBounds_toArray, List.set_cons_zero, List.set_cons_succ]
  refine wpAnyH_take (i := 13) (v := .int .i64 E1) rfl (by kernel_rfl) (by kernel_rfl) (by kernel_rfl) (fun _ _ _ h => h) (Or.inl ⟨by kernel_rfl, fun u hu => by kernel_rfl⟩) hS ?_
  simp only [Act.put, List.getElem_toArray, List.getElem_cons_succ, List.getElem_cons_zero, List.setIfInBounds_toArray, List.set_cons_zero, List.set_cons_succ]
  refine wpAnyH_take (i := 14) (v := u1) rfl (by kernel_rfl) (by kernel_rfl) (by kernel_rfl) (fun _ _ _ h => h) (Or.inl ⟨by kernel_rfl, fun u hu => by kernel_rfl⟩) hS ?_
  simp only [Act.put, List.getElem_toArray, List.getElem_cons_succ, List.getElem_cons_zero, List.setIfInBounds_toArray, List.set_cons_zero, List.set_cons_succ]
  refine wpAnyH_take (i := 15) (v := .int .i64 E1) rfl (by kernel_rfl) (by kernel_rfl) (by kernel_rfl) (fun _ _ _ h => h) (Or.inl ⟨by kernel_rfl, fun u hu => by kernel_rfl⟩) hS ?_
  simp only [Act.put, List.getElem_toArray, List.getElem_cons_succ, List.getElem_cons_zero, List.setIfInBounds_toArray, List.set_cons_zero, List.set_cons_succ]
  refine wpAnyH_done (by kernel_rfl) ?_ _
  by_cases e1 : E1 = 0
  rotate_left
  · have n1 : (E1 != 0) = true := by simpa using e1
    have n2 : (E1 == 0) = false := by simpa using e1
    rw [if_pos e1]
    go_wp2_with fail
    go_ret
    exact ⟨rfl, HB0.out.trans (H2.out.2.mono HB0.out.size)⟩
  subst e1
  have KX2 := KX.bel H2.out.2 KX.lt
  go_upto_region 5 with (fail)
  refine wp_region_held_drew (S := fun u => Bk u w.heap.size 57 #[.int .i64 x.cie, .int .i64 x.beg, .int .i64 x.size, .slice a x.ops.length cp]) (by kernel_rfl) ⟨KX2.hp⟩ (fun hS => ?_)
  refine wpAnyH_take (i := 0) (v := .int .i64 enc) rfl (by kernel_rfl) (by kernel_rfl) (by kernel_rfl) (fun _ _ _ h => h) (Or.inl ⟨by kernel_rfl, fun u hu => by kernel_rfl⟩) hS ?_
  simp only [Act.put, List.getElem_toArray, List.getElem_cons_succ, List.getElem_cons_zero, List.setIfInBounds_toArray, List.set_cons_zero, List.set_cons_succ]
  refine wpAnyH_take (i := 2) (v := .pointer (some ⟨w.heap.size, 2, none⟩)) rfl (by kernel_rfl) (by kernel_rfl) (by kernel_rfl) (fun _ _ _ h => h) (Or.inl ⟨by kernel_rfl, fun u hu => by kernel_rfl⟩) hS ?_
  simp only [Act.put, List.getElem_toArray, List.getElem_cons_succ, List.getElem_cons_zero, List.setIfInBounds_toArray, List.set_cons_zero, List.set_cons_succ]
  refine wpAnyH_take (i := 3) (v := .int .i64 x.size) rfl (by kernel_rfl) (by kernel_rfl) (by kernel_rfl) (fun _ _ _ h => h) (Or.inl ⟨by kernel_rfl, fun u hu => exec_loadV (t := 3) (p := ⟨w.heap.size, 2, none⟩) rfl (by kernel_rfl) (load_i64 (hu.cell 2 rfl))⟩) hS ?_
  simp only [Act.put, List.getElem_toArray, List.getElem_cons_succ, List.getElem_cons_zero, List.setIfInBounds_toArray, List.set_cons_zero, List.set_cons_succ]
  refine wpAnyH_ready (rs := [1]) (by kernel_rfl) (by simp) ?_
  refine AllReadyH.cons rfl (fun K hK => ?_) AllReadyH.nil
  simp only [List.getElem_toArray, List.getElem_cons_succ, List.getElem_cons_zero]
  refine wp_if (by kernel_rfl) ?_
  refine wp_enter (f := 51) (args := #[.int .i64 enc]) (by kernel_rfl) (plain_any enc _) ?_
  rintro e wn ⟨rfl, rfl⟩
  refine ⟨_, rfl, ?_⟩
  refine hK.out _ _ ⟨KX2.hp⟩ (fun hS => ?_)
  clear hK
  simp only [Act.put, List.getElem_toArray, List.getElem_cons_succ, List.getElem_cons_zero, List.setIfInBounds_toArray, List.set_cons_zero, List.set_cons_succ]
  refine wpAnyH_ready (rs := [4]) (by kernel_rfl) (by simp) ?_
  refine AllReadyH.cons rfl (fun K hK => ?_) AllReadyH.nil
  simp only [List.getElem_toArray, List.getElem_cons_succ, List.getElem_cons_zero]
  refine wp_if (by kernel_rfl) ?_
  refine wp_enter (f := 6) (args := #[.int .i64 (enc % 16), .int .i64 x.size, .int .i64 0, .int .i64 0]) (by kernel_rfl) (HP2.out _) ?_
  rintro e w3 ⟨u2, rfl, ho2, hb2⟩
  refine ⟨_, rfl, ?_⟩
  have H3 : Hid (Own w3 w0.heap.size u1 l1 ∧ Own w3 w0.heap.size u2 l2 ∧ Below w0.heap.size w0 w3) := ⟨H2.out.1.bel ((Below.refl _ _).drew.trans hb2), ho2.lowE H2.out.2.size, H2.out.2.trans (((Below.refl _ _).drew.trans hb2).mono H2.out.2.size)⟩
  refine hK.out _ _ (KX.bel H3.out.2.2 KX.lt) (fun hS => ?_)
  clear hK ho2 hb2
  simp only [Act.put, List.getElem_toArray, List.getElem_cons_succ, List.getElem_cons_zero, List.setIfInBounds_toArray, List.set_cons_zero, List.set_cons_succ]
  refine wpAnyH_take (i := 5) (v := .tuple #[u2, .int .i64 E2]) rfl (by kernel_rfl) (by kernel_rfl) (by kernel_rfl) (fun _ _ _ h => h) (Or.inl ⟨by kernel_rfl, fun u hu => by kernel_rfl⟩) hS ?_
  simp only [Act.put, List.getElem_toArray, List.getElem_cons_succ, List.getElem_cons_zero, List.setIfInBounds_toArray, List.set_cons_zero, List.set_cons_succ]
  refine wpAnyH_take (i := 6) (v := u2) rfl (by kernel_rfl) (by kernel_rfl) (by kernel_rfl) (fun _ _ _ h => h) (Or.inl ⟨by kernel_rfl, fun u hu => by kernel_rfl⟩) hS ?_
  simp only [Act.put, List.getElem_toArray, List.getElem_cons_succ, List.getElem_cons_zero, List.setIfInBounds_toArray, List.set_cons_zero, List.set_cons_succ]
  refine wpAnyH_take (i := 7) (v := .int .i64 E2) rfl (by kernel_rfl) (by kernel_rfl) (by kernel_rfl) (fun _ _ _ h => h) (Or.inl ⟨by kernel_rfl, fun u hu => by kernel_rfl⟩) hS ?_
  simp only [Act.put, List.getElem_toArray, List.getElem_cons_succ, List.getElem_cons_zero, List.setIfInBounds_toArray, List.set_cons_zero, List.set_cons_succ]
  refine wpAnyH_take (i := 8) (v := u2) rfl (by kernel_rfl) (by kernel_rfl) (by kernel_rfl) (fun _ _ _ h => h) (Or.inl ⟨by kernel_rfl, fun u hu => by kernel_rfl⟩) hS ?_
  simp only [Act.put, List.getElem_toArray, List.getElem_cons_succ, List.getElem_cons_zero, List.setIfInBounds_toArray, List.set_cons_zero, List.set_cons_succ]
  refine wpAnyH_take (i := 9) (v := .int .i64 E2) rfl (by kernel_rfl) (by kernel_rfl) (by kernel_rfl) (fun _ _ _ h => h) (Or.inl ⟨by kernel_rfl, fun u hu => by kernel_rfl⟩) hS ?_
  simp only [Act.put, List.getElem_toArray, List.getElem_cons_succ, List.getElem_cons_zero, List.setIfInBounds_toArray, List.set_cons_zero, List.set_cons_succ]
  refine wpAnyH_done (by kernel_rfl) ?_ _
  by_cases e2 : E2 = 0
  rotate_left
  · have n1 : (E2 != 0) = true := by simpa using e2
    have n2 : (E2 == 0) = false := by simpa using e2
    rw [if_neg (by simp), if_pos e2]
    go_wp2_with fail
    go_ret
    exact ⟨rfl, HB0.out.trans (H3.out.2.2.mono HB0.out.size)⟩
  subst e2
  rw [if_neg (by simp), if_neg (by simp)]
  have KX3 := KX.bel H3.out.2.2 KX.lt
  have hp1 := (HL1.out rfl)
  have hp2 := (HL2.out rfl).1
  have hp3 := (HL2.out rfl).2
  have HRec : Hid (∀ v8 w8, Own w8 w0.heap.size v8 (l1 ++ l2 ++ [0]) → Below w0.heap.size w0 w8 → Calls Tryd.prog 62 #[.pointer (some ⟨tb, 0, none⟩), .int .i64 ((L.length : Int) + 4 - (place : Int)), v8, .slice a x.ops.length cp] w8 (fun e w' => e = .returned (.tuple #[]) ∧ ∃ v', WA base w' tb addr (L ++ recB ((L.length : Int) + 4 - (place : Int)) (l1 ++ l2 ++ [0]) x.ops) v' ∧ WK w8 w' tb v v') ∧ (∀ v' w', WK w8 w' tb v v' → Bk w' w.heap.size 57 #[.int .i64 x.cie, .int .i64 x.beg, .int .i64 x.size, .slice a x.ops.length cp])) := ⟨fun v8 w8 ho8 hb8 => by
    have hbw : Below w.heap.size w w8 := HB0.out.trans (hb8.mono HB0.out.size)
    have hAp : Ap w8 w0.heap.size v8 (l1 ++ l2 ++ [0]) v := ⟨ho8, fun k hk e => by
      obtain ⟨M, q1, _⟩ := HA.out.own
      have := (q1.lt' k e).2.1
      have := (ho8.lt' k hk).1
      have := HB0.out.size
      omega⟩
    refine ⟨record_any (HA.out.bel hbw) hL _ (by omega) (by omega) hAp (by simp; omega) a cp x.ops hl (HI.out.bel hbw) (HF.out.bel hbw HF.out.z) (Nat.le_trans hbase hbw.size), fun v' w' hk => ?_⟩
    exact hk.bk (HA.out.bel hbw) (KX.bel hb8 KX.lt) (by decide) (by have := HA.out.bk.lt; omega)⟩
  go_upto_region 8 with (fail)
  refine wp_region_held_drew (S := fun u => Bk u w.heap.size 57 #[.int .i64 x.cie, .int .i64 x.beg, .int .i64 x.size, .slice a x.ops.length cp]) (by kernel_rfl) ⟨KX3.hp⟩ (fun hS => ?_)
  refine wpAnyH_take (i := 0) (v := .pointer (some ⟨tb, 0, none⟩)) rfl (by kernel_rfl) (by kernel_rfl) (by kernel_rfl) (fun _ _ _ h => h) (Or.inl ⟨by kernel_rfl, fun u hu => by kernel_rfl⟩) hS ?_
  simp only [Act.put, List.getElem_toArray, List.getElem_cons_succ, List.getElem_cons_zero, List.setIfInBounds_toArray, List.set_cons_zero, List.set_cons_succ]
  refine wpAnyH_take (i := 1) (v := .int .i64 ((L.length : Int) + 4)) rfl (by kernel_rfl) (by kernel_rfl) (by kernel_rfl) (fun _ _ _ h => h) (Or.inl ⟨by kernel_rfl, fun u hu => by kernel_rfl⟩) hS ?_
  simp only [Act.put, List.getElem_toArray, List.getElem_cons_succ, List.getElem_cons_zero, List.setIfInBounds_toArray, List.set_cons_zero, List.set_cons_succ]
  refine wpAnyH_take (i := 2) (v := .int .i64 (place : Int)) rfl (by kernel_rfl) (by kernel_rfl) (by kernel_rfl) (fun _ _ _ h => h) (Or.inl ⟨by kernel_rfl, fun u hu => by kernel_rfl⟩) hS ?_
  simp only [Act.put, List.getElem_toArray, List.getElem_cons_succ, List.getElem_cons_zero, List.setIfInBounds_toArray, List.set_cons_zero, List.set_cons_succ]
  refine wpAnyH_take (i := 3) (v := .int .i64 ((L.length : Int) + 4 - (place : Int))) rfl (by kernel_rfl) (by kernel_rfl) (by kernel_rfl) (fun _ _ _ h => h) (Or.inl ⟨by kernel_rfl, fun u hu => exec_sub rfl (by kernel_rfl) (by kernel_rfl) (by omega) (by omega)⟩) hS ?_
  simp only [Act.put, List.getElem_toArray, List.getElem_cons_succ, List.getElem_cons_zero, List.setIfInBounds_toArray, List.set_cons_zero, List.set_cons_succ]
  refine wpAnyH_take (i := 4) (v := u1) rfl (by kernel_rfl) (by kernel_rfl) (by kernel_rfl) (fun _ _ _ h => h) (Or.inl ⟨by kernel_rfl, fun u hu => by kernel_rfl⟩) hS ?_
  simp only [Act.put, List.getElem_toArray, List.getElem_cons_succ, List.getElem_cons_zero, List.setIfInBounds_toArray, List.set_cons_zero, List.set_cons_succ]
  refine wpAnyH_take (i := 5) (v := u2) rfl (by kernel_rfl) (by kernel_rfl) (by kernel_rfl) (fun _ _ _ h => h) (Or.inl ⟨by kernel_rfl, fun u hu => by kernel_rfl⟩) hS ?_
  simp only [Act.put, List.getElem_toArray, List.getElem_cons_succ, List.getElem_cons_zero, List.setIfInBounds_toArray, List.set_cons_zero, List.set_cons_succ]
  refine wpAnyH_take (i := 9) (v := .pointer (some ⟨w.heap.size, 3, none⟩)) rfl (by kernel_rfl) (by kernel_rfl) (by kernel_rfl) (fun _ _ _ h => h) (Or.inl ⟨by kernel_rfl, fun u hu => by kernel_rfl⟩) hS ?_
  simp only [Act.put, List.getElem_toArray, List.getElem_cons_succ, List.getElem_cons_zero, List.setIfInBounds_toArray, List.set_cons_zero, List.set_cons_succ]
  refine wpAnyH_take (i := 10) (v := .slice a x.ops.length cp) rfl (by kernel_rfl) (by kernel_rfl) (by kernel_rfl) (fun _ _ _ h => h) (Or.inl ⟨by kernel_rfl, fun u hu => exec_loadV (t := 55) (p := ⟨w.heap.size, 3, none⟩) rfl (by kernel_rfl) (load_ops (hu.cell 3 rfl))⟩) hS ?_
  simp only [Act.put, List.getElem_toArray, List.getElem_cons_succ, List.getElem_cons_zero, List.setIfInBounds_toArray, List.set_cons_zero, List.set_cons_succ]
  refine wpAnyH_ready (rs := [6, 7]) (by kernel_rfl) (by simp) ?_
  refine AllReadyH.cons rfl (fun K hK => ?_) (AllReadyH.cons rfl (fun K hK => ?_) AllReadyH.nil)
  · simp only [List.getElem_toArray, List.getElem_cons_succ, List.getElem_cons_zero]
    refine wp_if (by kernel_rfl) ?_
    refine wp_app rfl (by kernel_rfl) (by kernel_rfl) (l := l1) (m := l2) (show Own w3.drew _ _ _ from H3.out.1) (show Bt w3.drew _ _ from H3.out.2.1.bt) hp2 (by omega) (show w0.heap.size ≤ w3.drew.heap.size from H3.out.2.2.size) ?_
    intro v6 w6 hAE6
    have H6 : Hid (Own w6 w0.heap.size v6 (l1 ++ l2) ∧ Below w0.heap.size w0 w6) := ⟨hAE6.own, H3.out.2.2.drew.trans (hAE6.bel (show Own w3.drew _ _ _ from H3.out.1) (show w0.heap.size ≤ w3.drew.heap.size from H3.out.2.2.size))⟩
    refine hK.out _ _ (KX.bel H6.out.2 KX.lt) (fun hS => ?_)
    clear hK hAE6
    simp only [Act.put, List.getElem_toArray, List.getElem_cons_succ, List.getElem_cons_zero, List.setIfInBounds_toArray, List.set_cons_zero, List.set_cons_succ]
    refine wpAnyH_ready (rs := [7]) (by kernel_rfl) (by simp) ?_
    refine AllReadyH.cons rfl (fun K hK => ?_) AllReadyH.nil
    simp only [List.getElem_toArray, List.getElem_cons_succ, List.getElem_cons_zero]
    refine wp_if (by kernel_rfl) ?_
    refine wp_val (v := .slice (some ⟨w6.heap.size, 0, none⟩) 1 1) (w' := w6.alloc (.cells #[.int .u8 0] 5)) (build_0 w6 rfl) ?_
    have H7 : Hid (Own (w6.alloc (.cells #[.int .u8 0] 5)) w0.heap.size v6 (l1 ++ l2) ∧ Bt (w6.alloc (.cells #[.int .u8 0] 5)) (.slice (some ⟨w6.heap.size, 0, none⟩) 1 1) [0] ∧ Below w0.heap.size w0 (w6.alloc (.cells #[.int .u8 0] 5))) := ⟨H6.out.1.bel ((Below.refl _ _).alloc (Nat.le_refl _) _), bt_lit w6 0, H6.out.2.alloc H6.out.2.size _⟩
    refine hK.out _ _ (KX.bel H7.out.2.2 KX.lt) (fun hS => ?_)
    clear hK
    simp only [Act.put, List.getElem_toArray, List.getElem_cons_succ, List.getElem_cons_zero, List.setIfInBounds_toArray, List.set_cons_zero, List.set_cons_succ]
    refine wpAnyH_ready (rs := [8]) (by kernel_rfl) (by simp) ?_
    refine AllReadyH.cons rfl (fun K hK => ?_) AllReadyH.nil
    simp only [List.getElem_toArray, List.getElem_cons_succ, List.getElem_cons_zero]
    refine wp_if (by kernel_rfl) ?_
    refine wp_app rfl (by kernel_rfl) (by kernel_rfl) (l := l1 ++ l2) (m := [0]) H7.out.1 H7.out.2.1 (by decide) (by simp; omega) H7.out.2.2.size ?_
    intro v8 w8 hAE8
    have H8 : Hid (Own w8 w0.heap.size v8 (l1 ++ l2 ++ [0]) ∧ Below w0.heap.size w0 w8) := ⟨hAE8.own, H7.out.2.2.trans (hAE8.bel H7.out.1 H7.out.2.2.size)⟩
    refine hK.out _ _ (KX.bel H8.out.2 KX.lt) (fun hS => ?_)
    clear hK hAE8
    simp only [Act.put, List.getElem_toArray, List.getElem_cons_succ, List.getElem_cons_zero, List.setIfInBounds_toArray, List.set_cons_zero, List.set_cons_succ]
    refine wpAnyH_ready (rs := [11]) (by kernel_rfl) (by simp) ?_
    refine AllReadyH.cons rfl (fun K hK => ?_) AllReadyH.nil
    simp only [List.getElem_toArray, List.getElem_cons_succ, List.getElem_cons_zero]
    refine wp_if (by kernel_rfl) ?_
    obtain ⟨hR, hX9⟩ := HRec.out v8 w8 H8.out.1 H8.out.2
    refine wp_enter (f := 62) (args := #[.pointer (some ⟨tb, 0, none⟩), .int .i64 ((L.length : Int) + 4 - (place : Int)), v8, .slice a x.ops.length cp]) (by kernel_rfl) (hR) ?_
    rintro e w9 ⟨rfl, v9, ha9, hk9⟩
    refine ⟨_, rfl, ?_⟩
    refine hK.out _ _ (hX9 _ _ hk9) (fun hS => ?_)
    clear hK
    simp only [Act.put, List.getElem_toArray, List.getElem_cons_succ, List.getElem_cons_zero, List.setIfInBounds_toArray, List.set_cons_zero, List.set_cons_succ]
    refine wpAnyH_done (by kernel_rfl) ?_ _
    go_wp2_with fail
    go_ret
    exact ⟨rfl, v9, by simpa only [List.append_assoc] using ha9, (WK.of_bel (HB0.out.trans (H8.out.2.mono HB0.out.size))).trans hk9⟩
  · simp only [List.getElem_toArray, List.getElem_cons_succ, List.getElem_cons_zero]
    refine wp_if (by kernel_rfl) ?_
    refine wp_val (v := .slice (some ⟨w3.heap.size, 0, none⟩) 1 1) (w' := w3.drew.alloc (.cells #[.int .u8 0] 5)) (build_0 w3.drew rfl) ?_
    have H6 : Hid (Own (w3.drew.alloc (.cells #[.int .u8 0] 5)) w0.heap.size u1 l1 ∧ Own (w3.drew.alloc (.cells #[.int .u8 0] 5)) w0.heap.size u2 l2 ∧ Bt (w3.drew.alloc (.cells #[.int .u8 0] 5)) (.slice (some ⟨w3.heap.size, 0, none⟩) 1 1) [0] ∧ Below w0.heap.size w0 (w3.drew.alloc (.cells #[.int .u8 0] 5)) ∧ Own (w3.drew.alloc (.cells #[.int .u8 0] 5)) w3.heap.size (.slice (some ⟨w3.heap.size, 0, none⟩) 1 1) [0]) := ⟨(show Own w3.drew _ _ _ from H3.out.1).bel ((Below.refl _ _).alloc (Nat.le_refl _) _), (show Own w3.drew _ _ _ from H3.out.2.1).bel ((Below.refl _ _).alloc (Nat.le_refl _) _), bt_lit w3.drew 0, H3.out.2.2.drew.alloc (show w0.heap.size ≤ w3.drew.heap.size from H3.out.2.2.size) _, own_lit w3.drew 0⟩
    refine hK.out _ _ (KX.bel H6.out.2.2.2.1 KX.lt) (fun hS => ?_)
    clear hK
    simp only [Act.put, List.getElem_toArray, List.getElem_cons_succ, List.getElem_cons_zero, List.setIfInBounds_toArray, List.set_cons_zero, List.set_cons_succ]
    have hne : u1.ownBlock ≠ some w3.heap.size := fun e => by have := (H3.out.1.lt' _ e).2.1; omega
    generalize (w3.drew.alloc (.cells #[.int .u8 0] 5)) = w5 at *
    refine wpAnyH_ready (rs := [6]) (by kernel_rfl) (by simp) ?_
    refine AllReadyH.cons rfl (fun K hK => ?_) AllReadyH.nil
    simp only [List.getElem_toArray, List.getElem_cons_succ, List.getElem_cons_zero]
    refine wp_if (by kernel_rfl) ?_
    refine wp_app rfl (by kernel_rfl) (by kernel_rfl) (l := l1) (m := l2) H6.out.1 H6.out.2.1.bt hp2 (by omega) H6.out.2.2.2.1.size ?_
    intro v6 w6 hAE6
    have H7 : Hid (Own w6 w0.heap.size v6 (l1 ++ l2) ∧ Bt w6 (.slice (some ⟨w3.heap.size, 0, none⟩) 1 1) [0] ∧ Below w0.heap.size w0 w6) := ⟨hAE6.own, (own_far H6.out.2.2.2.2 hAE6.gr (by simpa [Value.ownBlock] using hne)).bt, H6.out.2.2.2.1.trans (hAE6.bel H6.out.1 H6.out.2.2.2.1.size)⟩
    refine hK.out _ _ (KX.bel H7.out.2.2 KX.lt) (fun hS => ?_)
    clear hK hAE6
    simp only [Act.put, List.getElem_toArray, List.getElem_cons_succ, List.getElem_cons_zero, List.setIfInBounds_toArray, List.set_cons_zero, List.set_cons_succ]
    refine wpAnyH_ready (rs := [8]) (by kernel_rfl) (by simp) ?_
    refine AllReadyH.cons rfl (fun K hK => ?_) AllReadyH.nil
    simp only [List.getElem_toArray, List.getElem_cons_succ, List.getElem_cons_zero]
    refine wp_if (by kernel_rfl) ?_
    refine wp_app rfl (by kernel_rfl) (by kernel_rfl) (l := l1 ++ l2) (m := [0]) H7.out.1 H7.out.2.1 (by decide) (by simp; omega) H7.out.2.2.size ?_
    intro v8 w8 hAE8
    have H8 : Hid (Own w8 w0.heap.size v8 (l1 ++ l2 ++ [0]) ∧ Below w0.heap.size w0 w8) := ⟨hAE8.own, H7.out.2.2.trans (hAE8.bel H7.out.1 H7.out.2.2.size)⟩
    refine hK.out _ _ (KX.bel H8.out.2 KX.lt) (fun hS => ?_)
    clear hK hAE8
    simp only [Act.put, List.getElem_toArray, List.getElem_cons_succ, List.getElem_cons_zero, List.setIfInBounds_toArray, List.set_cons_zero, List.set_cons_succ]
    refine wpAnyH_ready (rs := [11]) (by kernel_rfl) (by simp) ?_
    refine AllReadyH.cons rfl (fun K hK => ?_) AllReadyH.nil
    simp only [List.getElem_toArray, List.getElem_cons_succ, List.getElem_cons_zero]
    refine wp_if (by kernel_rfl) ?_
    obtain ⟨hR, hX9⟩ := HRec.out v8 w8 H8.out.1 H8.out.2
    refine wp_enter (f := 62) (args := #[.pointer (some ⟨tb, 0, none⟩), .int .i64 ((L.length : Int) + 4 - (place : Int)), v8, .slice a x.ops.length cp]) (by kernel_rfl) (hR) ?_
    rintro e w9 ⟨rfl, v9, ha9, hk9⟩
    refine ⟨_, rfl, ?_⟩
    refine hK.out _ _ (hX9 _ _ hk9) (fun hS => ?_)
    clear hK
    simp only [Act.put, List.getElem_toArray, List.getElem_cons_succ, List.getElem_cons_zero, List.setIfInBounds_toArray, List.set_cons_zero, List.set_cons_succ]
    refine wpAnyH_done (by kernel_rfl) ?_ _
    go_wp2_with fail
    go_ret
    exact ⟨rfl, v9, by simpa only [List.append_assoc] using ha9, (WK.of_bel (HB0.out.trans (H8.out.2.mono HB0.out.size))).trans hk9⟩
end Go.Proofs.YtomboebfbipaaaaDoor
