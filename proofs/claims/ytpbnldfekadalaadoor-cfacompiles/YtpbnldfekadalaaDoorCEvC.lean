/- Ops out of a block of the call's own that are done; the new compiler; the document's table behind Begin. -/
import Derived.Test.YtpbnldfekadalaaDoorCEvL
import Derived.Test.YtpbnldfekadalaaDoorCD9
namespace Go.Proofs.YtpbnldfekadalaaDoor
open Go.ChangeShapes Go.WideShapes Go.ChangeAt Go.RowKit
set_option linter.unusedVariables false
set_option linter.unusedSimpArgs false
section
variable {X : Nat → Option Obj}
set_option maxRecDepth 10000 in
set_option maxHeartbeats 1000000 in
theorem doAll_x {base tb m : Nat} {w0 w : World} {bg : Bool} {t : Tb} {vr vk : Value} (h : TA X base w tb bg t vr vk) (hp : Pl m bg t) (ao : Option Addr) (c : Nat) (l : List Oq) (hm : m + l.length ≤ 90000) (hf : Fz w0) (hb : base = w0.heap.size) (hq : ∀ u : World, (∀ k c, X k = some c → u.heap[k]? = some c) → Oqs u ao l) (hB : Below base w0 w) :
    Calls Tryd.prog 22 #[.pointer (some ⟨tb, 0, none⟩), .slice ao l.length c] w fun e w' => e = .returned (.bool (opsM (!bg) t l).isSome) ∧ TEnd X base tb bg w w' (opsM (!bg) t l) := by
  subst hb
  obtain ⟨R, hR⟩ : ∃ R, opsM (!bg) t l = R := ⟨_, rfl⟩
  obtain ⟨r, hr⟩ : ∃ r, R.isSome = r := ⟨_, rfl⟩
  rw [hR, hr]
  have HX : Hid (opsM (!bg) t l = R ∧ R.isSome = r) := ⟨hR, hr⟩
  have HH : Hid _ := ⟨h⟩
  have HP : Hid _ := ⟨hp⟩
  have HQ : Hid _ := ⟨hq⟩
  have HBB : Hid _ := ⟨hB⟩
  have HF : Hid _ := ⟨hf⟩
  clear hR hr h hp hq hB hf
  go_enter Tryd.func22, Tryd.ntmps22
  go_wp2
  go_loopw [9] (fun iv wr => ∃ k : Nat, k ≤ l.length ∧ iv = .int .i64 k ∧ Hid (∃ tk vr vk, opsM (!bg) t (l.take k) = some tk ∧ TA X w0.heap.size wr tb bg tk vr vk ∧ Pl (m + k) bg tk ∧ Below w0.heap.size w wr)) (fun iv _ => l.length - (intOf iv).toNat)
  case atStart => exact ⟨0, by omega, rfl, ⟨t, vr, vk, rfl, HH.out, HP.out, Below.refl _ _⟩⟩
  case round =>
    obtain ⟨k, hk, rfl, HW⟩ := hrel
    by_cases hlt : k < l.length
    · have hlti : (k : Int) < (l.length : Int) := by omega
      obtain ⟨tk, vr1, vk1, hops, hT, hPl, hBw⟩ := HW.out
      obtain ⟨b, off, rfl, hat⟩ : ∃ b off, ao = some ⟨b, off, none⟩ ∧ ∀ i, i < l.length → OqAt wr b (off + i * 3) (l.getD i Oq.none) := by
        rcases HQ.out _ hT.ff.fx with h | h
        · rw [h] at hlt; simp at hlt
        · exact h
      have ho := hat k hlt
      have hnext := ops_take hlt hops
      have hfw : Fz wr := HF.out.bel (HBB.out.trans hBw) HF.out.z
      have hz0 := HF.out.z
      clear hat HW
      generalize l.getD k Oq.none = o at *
      have HN : Hid _ := ⟨hnext⟩
      have HOp : Hid _ := ⟨hops⟩
      clear hnext hops
      go_upto_region 3 with fail
      iterate 1 go_step
      refine wpList_val (v := .pointer (some ⟨b, off + k * 3, none⟩)) (w' := wr) (by kernel_rfl) (exec_ix rfl (by kernel_rfl) (by kernel_rfl) (ix_op b off l.length c k hlt wr)) ?_
      simp only [Act.put, List.getElem_toArray, List.getElem_cons_succ, List.getElem_cons_zero, List.setIfInBounds_toArray, List.set_cons_zero, List.set_cons_succ]
      refine wpList_val (v := o.val) (w' := wr) (by kernel_rfl) (exec_loadV (t := 64) (p := ⟨b, off + k * 3, none⟩) rfl (by kernel_rfl) (load_opm ho)) ?_
      simp only [Act.put, List.getElem_toArray, List.getElem_cons_succ, List.getElem_cons_zero, List.setIfInBounds_toArray, List.set_cons_zero, List.set_cons_succ]
      refine wpList_val (v := .pointer (some ⟨wr.heap.size, 0, none⟩)) (w' := wr.alloc (.cells zeroO 64)) (by kernel_rfl) (by kernel_rfl) ?_
      simp only [Act.put, List.getElem_toArray, List.getElem_cons_succ, List.getElem_cons_zero, List.setIfInBounds_toArray, List.set_cons_zero, List.set_cons_succ]
      have B2 : Below wr.heap.size wr (wr.alloc (.cells zeroO 64)) := (Below.refl _ _).alloc (Nat.le_refl _) _
      have N2 : Bk (wr.alloc (.cells zeroO 64)) wr.heap.size 64 zeroO := Bk.new _ _ _
      refine wpList_part (g := wr.heap.size) (off := 0) (val := o.val) (new := #[.int .i64 o.k, .int .i64 o.r, .int .i64 o.n]) rfl rfl (by kernel_rfl) (by kernel_rfl) N2 (by rw [sizeOp]; rfl) (by show 0 + 3 ≤ 3; omega) (by intro u hu; simp [Value.cells] at hu; rcases hu with rfl | rfl | rfl <;> rfl) rfl ?_
      simp only [Act.put, List.getElem_toArray, List.getElem_cons_succ, List.getElem_cons_zero, List.setIfInBounds_toArray, List.set_cons_zero, List.set_cons_succ]
      have N3 := N2.setR #[.int .i64 o.k, .int .i64 o.r, .int .i64 o.n]
      have B3 : Below wr.heap.size wr ((wr.alloc (.cells zeroO 64)).setRow wr.heap.size #[.int .i64 o.k, .int .i64 o.r, .int .i64 o.n]) := B2.trans (below_set _ _ _ (Nat.le_refl _))
      have H3 := hT.bel B3
      have hb3 : w0.heap.size ≤ wr.heap.size := Nat.le_trans HBB.out.size hBw.size
      have Bw3 := hBw.trans (B3.mono hb3)
      have F3 := hfw.bel B3 hfw.z
      generalize (wr.alloc (.cells zeroO 64)).setRow wr.heap.size #[.int .i64 o.k, .int .i64 o.r, .int .i64 o.n] = W3 at *
      generalize wr.heap.size = sb at *
      have d0 := N3.cell 0 rfl
      have d1 := N3.cell 1 rfl
      have d2 := N3.cell 2 rfl
      have HD : Hid _ := ⟨do_tb H3 o hPl (by omega) F3 hz0⟩
      have HBw : Hid _ := ⟨Bw3⟩
      have HPl : Hid _ := ⟨hPl⟩
      clear hT hPl hBw ho B2 N2 N3 B3 H3 Bw3 F3 hfw hz0 hb3
      refine wpList_nil ?_
      cases hone : oneM (!bg) tk o with
      | none =>
        rw [hone] at HD HN
        have hRn : R = none := by rw [← HX.out.1]; exact ops_none HN.out
        obtain rfl : r = false := by rw [← HX.out.2, hRn]; rfl
        subst hRn
        clear hone
        go_wp2_with (go_at_call 28; (with_reducible refine HD.out.mono ?_); rintro e w4 ⟨he, hb4⟩; subst he; have HB4 : Hid _ := ⟨hb4⟩; clear hb4)
        go_ret
        exact ⟨rfl, HBw.out.trans HB4.out.1, fun t' ht => by cases ht⟩
      | some t2 =>
        rw [hone] at HD HN
        have hd2 : Pl (m + k + 1) bg t2 := pl_do HPl.out (oneM_some hone).1 (by rw [← oneM_d (oneM_some hone).1]; exact hone)
        have HP2 : Hid _ := ⟨hd2⟩
        clear hone hd2
        go_wp2_with (go_at_call 28; (with_reducible refine HD.out.mono ?_); rintro e w4 ⟨he, hb4⟩; subst he; have HB4 : Hid _ := ⟨hb4⟩; clear hb4)
        go_roundw
        case rel =>
          obtain ⟨v1, v2, hT4⟩ := HB4.out.2 t2 rfl
          exact ⟨k + 1, hlt, by go_num, ⟨t2, v1, v2, HN.out, hT4, HP2.out, HBw.out.trans HB4.out.1⟩⟩
        case measure => simp [intOf]; omega
    · obtain rfl : k = l.length := by omega
      obtain ⟨tk, vr1, vk1, hops, hT, hPl, hBw⟩ := HW.out
      rw [List.take_of_length_le (Nat.le_refl _), HX.out.1] at hops
      subst hops
      obtain rfl : r = true := HX.out.2.symm
      have HT : Hid _ := ⟨hT⟩
      have HBw : Hid _ := ⟨hBw⟩
      clear hT hPl hBw HW
      go_wp2
      go_ret
      refine ⟨rfl, HBw.out, fun t' ht => ?_⟩
      cases ht
      exact ⟨vr1, vk1, HT.out⟩
set_option maxRecDepth 10000 in
set_option maxHeartbeats 1000000 in
theorem rbegin_x {base tb : Nat} {w0 w : World} {t : Tb} {vL vK : Value} (h : TD X base w tb t vL vK) (hp : Pl 0 false t) (ao : Option Addr) (c : Nat) (l : List Oq) (hm : l.length ≤ 4000) (hb : base = w0.heap.size) (hq : ∀ u : World, (∀ k c, X k = some c → u.heap[k]? = some c) → Oqs u ao l) (hB : Below base w0 w) :
    Calls Tryd.prog 15 #[.pointer (some ⟨tb, 0, none⟩), .slice ao l.length c] w fun e w' => e = .returned (.bool (begM t l).isSome) ∧ DEnd X base tb w w' (begM t l) := by
  subst hb
  obtain ⟨R, hR⟩ : ∃ R, begM t l = R := ⟨_, rfl⟩
  obtain ⟨r, hr⟩ : ∃ r, R.isSome = r := ⟨_, rfl⟩
  rw [hR, hr]
  have HX : Hid (begM t l = R ∧ R.isSome = r) := ⟨hR, hr⟩
  have HH : Hid _ := ⟨h⟩
  have HP : Hid _ := ⟨hp⟩
  have HQ : Hid _ := ⟨hq⟩
  have HBB : Hid _ := ⟨hB⟩
  clear hR hr h hp hq hB
  go_enter Tryd.func15, Tryd.ntmps15
  go_wp2
  go_loopw [5] (fun iv wr => ∃ k : Nat, k ≤ l.length ∧ iv = .int .i64 k ∧ Hid (∃ tk vL vK, opsM true t (l.take k) = some tk ∧ TD X w0.heap.size wr tb tk vL vK ∧ Pl (0 + k) false tk ∧ Below w0.heap.size w wr)) (fun iv _ => l.length - (intOf iv).toNat)
  case atStart => exact ⟨0, by omega, rfl, ⟨t, vL, vK, rfl, HH.out, HP.out, Below.refl _ _⟩⟩
  case round =>
    obtain ⟨k, hk, rfl, HW⟩ := hrel
    by_cases hlt : k < l.length
    · have hlti : (k : Int) < (l.length : Int) := by omega
      obtain ⟨tk, vL1, vK1, hops, hT, hPl, hBw⟩ := HW.out
      obtain ⟨b, off, rfl, hat⟩ : ∃ b off, ao = some ⟨b, off, none⟩ ∧ ∀ i, i < l.length → OqAt wr b (off + i * 3) (l.getD i Oq.none) := by
        rcases HQ.out _ hT.ff.fx with h | h
        · rw [h] at hlt; simp at hlt
        · exact h
      obtain ⟨c0, c1, c2⟩ := hat k hlt
      have hnext := ops_take hlt hops
      clear hat HW
      generalize l.getD k Oq.none = o at *
      have HN : Hid _ := ⟨hnext⟩
      have HD : Hid _ := ⟨rone_any hT true hPl (by omega) o⟩
      have HBw : Hid _ := ⟨hBw⟩
      have HPl : Hid _ := ⟨hPl⟩
      clear hnext hops hT hPl hBw
      cases hone : oneM true tk o with
      | none =>
        rw [hone] at HD HN
        have hRn : R = none := by rw [← HX.out.1]; unfold begM; rw [ops_none HN.out]
        obtain rfl : r = false := by rw [← HX.out.2, hRn]; rfl
        subst hRn
        clear hone
        go_wp2_with (go_at_call 16; (with_reducible refine HD.out.mono ?_); rintro e w4 ⟨he, hb4⟩; subst he; have HB4 : Hid _ := ⟨hb4⟩; clear hb4)
        go_ret
        exact ⟨rfl, HBw.out.trans HB4.out.1, fun t' ht => by cases ht⟩
      | some t2 =>
        rw [hone] at HD HN
        have hd2 : Pl (0 + k + 1) false t2 := pl_do HPl.out (oneM_some hone).1 (by rw [← oneM_d (oneM_some hone).1]; exact hone)
        have HP2 : Hid _ := ⟨hd2⟩
        clear hone hd2
        go_wp2_with (go_at_call 16; (with_reducible refine HD.out.mono ?_); rintro e w4 ⟨he, hb4⟩; subst he; have HB4 : Hid _ := ⟨hb4⟩; clear hb4)
        go_roundw
        case rel =>
          obtain ⟨v1, v2, hT4⟩ := HB4.out.2 t2 rfl
          exact ⟨k + 1, hlt, by go_num, ⟨t2, v1, v2, HN.out, hT4, HP2.out, HBw.out.trans HB4.out.1⟩⟩
        case measure => simp [intOf]; omega
    · obtain rfl : k = l.length := by omega
      obtain ⟨tk, vL1, vK1, hops, hT, hPl, hBw⟩ := HW.out
      rw [List.take_of_length_le (Nat.le_refl _)] at hops
      have hX : begM t l = if 0 ≤ tk.now.r then some ⟨tk.L, tk.now, tk.now, tk.kept, tk.size⟩ else none := by unfold begM; rw [hops]
      rw [HX.out.1] at hX
      have HXX : Hid _ := ⟨hX⟩
      have HT : Hid _ := ⟨hT⟩
      have HBw : Hid _ := ⟨hBw⟩
      have hb0 : w0.heap.size ≤ tb := hT.lo
      have hwf := hT.wf
      clear hPl hBw HW hops hX
      have H5 : TD X w0.heap.size (wr.setRow tb (dC ⟨tk.L, tk.now, tk.now, tk.kept, tk.size⟩ vL1 vK1).toArray) tb ⟨tk.L, tk.now, tk.now, tk.kept, tk.size⟩ vL1 vK1 := hT.put (t' := ⟨tk.L, tk.now, tk.now, tk.kept, tk.size⟩) rfl rfl ⟨hwf.L, hwf.now, hwf.now, hwf.kept⟩ rfl
      go_upto_region 7 with (first
        | (refine wpList_load_mid rfl 60 _ rfl tb 1 (by rfl) tk.now.cells _ hT.rnow Tryd.underlying60 rfl (by rw [sizeRowD, Rw.cells_len hwf.now]) ?_)
        | (refine wpList_part (g := tb) (off := 38) (val := .agg tk.now.cells.toArray) (new := (dC ⟨tk.L, tk.now, tk.now, tk.kept, tk.size⟩ vL1 vK1).toArray) rfl rfl (by rfl) (by rfl) hT.bk (by rw [sizeRowD]; simp [Value.cells, Rw.cells_len hwf.now]) (by rw [hT.len]; simp [Value.cells, Rw.cells_len hwf.now]) (by simpa [Value.cells] using rw_one tk.now) (by simpa [Value.cells] using dput_first hwf tk.now hwf.now) ?_))
      have B5 := below_set wr tb (dC ⟨tk.L, tk.now, tk.now, tk.kept, tk.size⟩ vL1 vK1).toArray hb0
      have HH5 : Hid _ := ⟨H5⟩
      have HB5 : Hid _ := ⟨B5⟩
      have d0 := H5.r
      dsimp only at d0
      clear hT H5 B5
      generalize wr.setRow tb (dC ⟨tk.L, tk.now, tk.now, tk.kept, tk.size⟩ vL1 vK1).toArray = W5 at *
      by_cases hr : 0 ≤ tk.now.r
      · have hRR : R = some ⟨tk.L, tk.now, tk.now, tk.kept, tk.size⟩ := by have := HXX.out; rw [if_pos hr] at this; exact this
        obtain rfl : r = true := by rw [← HX.out.2, hRR]; rfl
        go_wp2_with fail
        go_ret
        refine ⟨rfl, HBw.out.trans HB5.out, fun t' ht => ?_⟩
        first | rw [hRR] at ht | skip
        cases ht
        exact ⟨vL1, vK1, HH5.out⟩
      · have hRR : R = none := by have := HXX.out; rw [if_neg hr] at this; exact this
        obtain rfl : r = false := by rw [← HX.out.2, hRR]; rfl
        go_wp2_with fail
        go_ret
        refine ⟨rfl, HBw.out.trans HB5.out, fun t' ht => ?_⟩
        first | rw [hRR] at ht | skip
        cases ht
end
/-- What stands in a row's block. -/
def rX (w : World) (v : Value) : Nat → Option Obj := fun k => if v.ownBlock = some k then w.heap[k]? else none
theorem ownR_x {w u : World} {base : Nat} {v : Value} {l : List Oq} (h : OwnR w base v l) (hu : ∀ k c, rX w v k = some c → u.heap[k]? = some c) : OwnR u base v l := by
  rcases h.2 with ⟨e1, e2⟩ | ⟨g, cap, cur, e1, e2, e3, e4⟩
  · exact ⟨h.1, .inl ⟨e1, e2⟩⟩
  · refine ⟨h.1, .inr ⟨g, cap, cur, e1, e2, hu g _ ?_, e4⟩⟩
    unfold rX
    rw [if_pos (by rw [e1]; rfl)]
    exact e3
theorem ownP_x {w u : World} {base : Nat} {v : Value} {l : List Oq} (h : OwnP w base v l) (hu : ∀ k c, rX w v k = some c → u.heap[k]? = some c) : OwnP u base v l := by
  rcases h.2 with ⟨e1, e2⟩ | ⟨g, cap, cur, e1, e2, e3, e4⟩
  · exact ⟨h.1, .inl ⟨e1, e2⟩⟩
  · refine ⟨h.1, .inr ⟨g, cap, cur, e1, e2, hu g _ ?_, e4⟩⟩
    unfold rX
    rw [if_pos (by rw [e1]; rfl)]
    exact e3
theorem own_of {ao bo : Option Addr} {n m c d : Nat} (e : Value.slice ao n c = Value.slice bo m d) : ao = bo ∧ c = d := by
  injection e with e1 _ e3
  exact ⟨e1, e3⟩
set_option maxRecDepth 20000 in
set_option maxHeartbeats 2000000 in
theorem newCompiler_any (size : Int) (h0 : 0 ≤ size) (h1 : size ≤ 1048576) (w : World) (hf : Fz w) :
    Calls Tryd.prog 12 #[.int .i64 size] w fun e w' => ∃ cb tb vr vk, e = .returned (.pointer (some ⟨cb, 0, none⟩)) ∧ KA nX w.heap.size w' cb tb (esU size) vr vk (.slice none 0 0) ∧ Below w.heap.size w w' := by
  have HNew : Hid _ := ⟨newTable_any size w⟩
  have HUs : Hid _ := ⟨fun w => pusual w⟩
  have HA : Hid (∀ (tb : Nat) (w2 : World) (ao : Option Addr) (c : Nat) (X : Nat → Option Obj), TA X w.heap.size w2 tb false (tbNew size) (.slice none 0 0) (.slice none 0 0) → (∀ u : World, (∀ k c, X k = some c → u.heap[k]? = some c) → Oqs u ao kI) → Below w.heap.size w w2 → Calls Tryd.prog 22 #[.pointer (some ⟨tb, 0, none⟩), .slice ao kI.length c] w2 fun e w' => e = .returned (.bool true) ∧ TEnd X w.heap.size tb false w2 w' (opsM true (tbNew size) kI)) := ⟨fun tb w2 ao c X hT hq hB => doAll_x hT (pl_new h0 h1) ao c kI (by decide) hf rfl hq hB⟩
  have HB : Hid (∀ (tb : Nat) (vr vk : Value) (w2 : World), TA nX w.heap.size w2 tb false ⟨[], ⟨0, 7, 8, zero17.set 16 (2, -8)⟩, Rw.zero, [], size⟩ vr vk → Calls Tryd.prog 23 #[.pointer (some ⟨tb, 0, none⟩)] w2 fun e w' => e = .returned (.bool true) ∧ TA nX w.heap.size w' tb true (tbU size) vr vk ∧ Below w.heap.size w2 w') := ⟨fun tb vr vk w2 hT => begin_any hT⟩
  clear hf
  go_enter Tryd.func12, Tryd.ntmps12
  go_upto_region 2 with (go_at_call 21; (with_reducible refine HNew.out.mono ?_); rintro e w1 ⟨tb, he, hT1, hB1⟩; subst he; have HT1 : Hid _ := ⟨hT1⟩; have HB1 : Hid _ := ⟨hB1⟩; clear hT1 hB1)
  go_upto_region 3 with (first
    | (go_at_call 8; (with_reducible refine (HUs.out _).mono ?_); rintro e w2 ⟨v, he, hO2, hB2⟩; obtain ⟨ao, cap, hv, _, _, hQ2, _⟩ := hO2.any; subst hv; subst he; have HX2 : Hid (TA (rX w2 (.slice ao kI.length cap)) w.heap.size w2 tb false (tbNew size) (.slice none 0 0) (.slice none 0 0) ∧ Below w.heap.size w w2 ∧ ∀ u : World, (∀ k c, rX w2 (.slice ao kI.length cap) k = some c → u.heap[k]? = some c) → Oqs u ao kI) := ⟨⟨(HT1.out.bel hB2).bk, HT1.out.lo, (HT1.out.bel hB2).L, (HT1.out.bel hB2).K, HT1.out.nr, HT1.out.nk, HT1.out.rk, HT1.out.wf, ⟨fun k c e => (by unfold rX at e; split at e; exact e; cases e), (by unfold rX; rw [if_neg (fun e => by have := (hO2.lt _ e).1; have := HT1.out.bk.lt; omega)]), fun k e => (by simp [Value.ownBlock] at e), fun k e => (by simp [Value.ownBlock] at e)⟩⟩, HB1.out.trans (hB2.mono HB1.out.size), fun u hu => (by obtain ⟨bo, d, e, _, _, q, _⟩ := (ownP_x hO2 hu).any; rw [(own_of e).1]; exact q)⟩; clear hO2 hB2 hQ2)
    | (go_at_call 22; (with_reducible refine (HA.out _ _ _ _ _ HX2.out.1 HX2.out.2.2 HX2.out.2.1).mono ?_); rintro e w3 ⟨he, hE3⟩; subst he; obtain ⟨vr3, vk3, hT3⟩ := hE3.2 _ (usual_ops size); have HT3 : Hid (TA nX w.heap.size w3 tb false ⟨[], ⟨0, 7, 8, zero17.set 16 (2, -8)⟩, Rw.zero, [], size⟩ vr3 vk3 ∧ Below w.heap.size w w3) := ⟨⟨hT3.bk, hT3.lo, hT3.L, hT3.K, hT3.nr, hT3.nk, hT3.rk, hT3.wf, Fx.nil _ _ _ _⟩, HX2.out.2.1.trans hE3.1⟩; clear hE3 hT3))
  go_upto_region 4 with (go_at_call 23; (with_reducible refine (HB.out _ _ _ _ HT3.out.1).mono ?_); rintro e w4 ⟨he, hT4, hB4⟩; subst he; have HT4 : Hid (TA nX w.heap.size w4 tb true (tbU size) vr3 vk3 ∧ Below w.heap.size w w4) := ⟨hT4, HT3.out.2.trans hB4⟩; clear hT4 hB4)
  go_wp2
  go_ret
  have B5 := bel_new w4 #[.pointer (some ⟨tb, 0, none⟩), .int .i64 0, .slice none 0 0] 47
  exact ⟨w4.heap.size, tb, vr3, vk3, rfl, ⟨Bk.new _ _ _, HT4.out.2.size, HT4.out.1.bel B5, OwnP.nil _ _, Fy.nil _ _ _ _ _ _⟩, HT4.out.2.trans (B5.mono HT4.out.2.size)⟩
end Go.Proofs.YtpbnldfekadalaaDoor
