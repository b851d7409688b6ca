/- The law CfaCompiles, walked. -/
import Derived.Test.YtpbnldfekadalaaDoorCEvS
import Derived.Test.YtpbnldfekadalaaDoorCEvR
import Derived.Test.YtpbnldfekadalaaDoorCFind
import Derived.BigQuiet
namespace Go.Proofs.YtpbnldfekadalaaDoor
open Go.ChangeShapes Go.WideShapes Go.ChangeAt Go.RowKit
set_option linter.unusedVariables false
set_option linter.unusedSimpArgs false

theorem load_str {w : World} {p : Addr} {s : ByteArray} (hc : w.cell? p = some (.string s)) : (loadVar 9 p).run Tryd.prog w = .ok (.string s) w := by
  simp [loadVar, isAgg, run_underlying Tryd.underlying9, go_sem, hc]
theorem load_ints {w : World} {p : Addr} {ao : Option Addr} {n c : Nat} (hc : w.cell? p = some (.slice ao n c)) : (loadVar 24 p).run Tryd.prog w = .ok (.slice ao n c) w := by
  simp [loadVar, isAgg, run_underlying Tryd.underlying24, go_sem, hc]
theorem cknows1 : PKnows := cknows_any prows pfind pusual
set_option maxRecDepth 20000 in
set_option maxHeartbeats 8000000 in
theorem cfaCompiles_walk (ao : Option Addr) (c : Nat) (l : List Ev) (size : Int) (w : World) (h : Evs w ao l) (hl : l.length ≤ 2932031007400) (hok : ∀ x ∈ l, (-9223372036854775808 ≤ x.p ∧ x.p ≤ 9223372036854775807) ∧ x.a.length ≤ 17592186044000) (hnl : EvNil w ao l) (hs : -9223372036854775808 ≤ size ∧ size ≤ 9223372036854775807) (hf : Fz w) :
    Calls Tryd.prog 3 #[.slice ao l.length c, .int .i64 size] w fun e w' => e = .returned (.bool true) ∧ Below w.heap.size w w' := by
  have HE : Hid _ := ⟨h⟩
  have HN : Hid _ := ⟨hnl⟩
  have HOk : Hid _ := ⟨hok⟩
  have hok2 : ∀ x ∈ l, EvOk x := fun x hx => ⟨(hok x hx).1, by have := (hok x hx).2; omega⟩
  have hl' : (l.length : Int) ≤ 2932031007400 := by omega
  have HPC : Hid (∀ W a d, Evs W a l → Below w.heap.size w W → Calls Tryd.prog 4 #[.slice a l.length d, .int .i64 size] W (CE (comR l size) W)) := ⟨fun W a d hW hb => pcompile_any a d l size W hW (by omega) hok2 hs (hf.bel hb hf.z)⟩
  have HRC : Hid (∀ W, Below w.heap.size w W → Calls Tryd.prog 5 #[.slice ao l.length c, .int .i64 size] W fun e w' => ∃ v, e = .returned (.tuple #[v, .int .i64 (comR l size).1]) ∧ OwnR w' W.heap.size v (comR l size).2 ∧ Below W.heap.size W w') := ⟨fun W hb => rcompile_any ao c l size W (h.bel hb) (by omega) hok2 hs⟩
  have HKn : Hid (∀ W, Below w.heap.size w W → Calls Tryd.prog 10 #[] W fun e w' => e = .returned (.bool true) ∧ Below W.heap.size W w') := ⟨fun W hb => cknows1 W (hf.bel hb hf.z)⟩
  have HLc : Hid ((comR l size).2.length ≤ 4000) := ⟨comR_len l size⟩
  clear h hnl hok hok2 hs hf
  unfold CE at HPC
  generalize comR l size = C at *
  obtain ⟨E, O⟩ := C
  dsimp only at HPC HRC HLc
  go_enter Tryd.func3, Tryd.ntmps3
  go_wp2
  go_loopw [5, 6] (fun u5 iv wr => ∃ k : Nat, k ≤ l.length ∧ iv = .int .i64 k ∧ Hid (TV wr w.heap.size u5 (l.take k) ∧ Below w.heap.size w wr)) (fun _ iv _ => l.length - (intOf iv).toNat)
  case atStart => exact ⟨0, by omega, rfl, ⟨TV.nil _ _, Below.refl _ _⟩⟩
  case round =>
    obtain ⟨k, hk, rfl, HV⟩ := hrel
    by_cases hlt : k < l.length
    · obtain ⟨b, off, rfl, hat⟩ : ∃ b off, ao = some ⟨b, off, none⟩ ∧ ∀ i, i < l.length → EvAt w b (off + i * 3) (l.getD i Ev.zero) := by
        rcases HE.out with h | h
        · omega
        · exact h
      have q1 : (k : Int) < (l.length : Int) := by omega
      have q0 : (0 : Int) ≤ (k : Int) := by omega
      obtain ⟨aa, ca, x0, x1, x2, hI⟩ := hat k hlt
      have hnil : aa = none → ca = 0 := fun e => HN.out b off rfl k hlt (l.getD k Ev.zero).a.length ca (by rw [← e]; exact x2)
      have hya := (HOk.out _ (ev_in hlt)).2
      have HTk : Hid (l.take (k + 1) = l.take k ++ [l.getD k Ev.zero]) := ⟨by rw [List.take_add_one]; simp [hlt]⟩
      have HTd : Hid (TV wr.drew w.heap.size u5 (l.take k)) := ⟨HV.out.1.bel ((Below.refl _ wr).drew)⟩
      have HBd : Hid (Below w.heap.size w wr.drew) := ⟨HV.out.2.drew⟩
      have htl : (l.take k).length = k := by simp; omega
      generalize l.getD k Ev.zero = y at *
      have HCW : Hid (∀ W, Below w.heap.size w W → W.cell? ⟨b, off + k * 3, none⟩ = some (.int .i64 y.p) ∧ W.cell? ⟨b, off + k * 3 + 1, none⟩ = some (.string y.s) ∧ W.cell? ⟨b, off + k * 3 + 2, none⟩ = some (.slice aa y.a.length ca)) := ⟨fun W hW => ⟨up_belI x0 hW, up_belI x1 hW, up_belI x2 hW⟩⟩
      have HIw : Hid _ := ⟨hI⟩
      clear hat x0 x1 x2 hI HV
      go_upto_region 5 with (fail)
      refine wp_region_held_drew (S := fun u => u.cell? ⟨b, off + k * 3, none⟩ = some (.int .i64 y.p) ∧ u.cell? ⟨b, off + k * 3 + 1, none⟩ = some (.string y.s) ∧ u.cell? ⟨b, off + k * 3 + 2, none⟩ = some (.slice aa y.a.length ca)) (by kernel_rfl) (HCW.out _ HBd.out) (fun hS => ?_)
      generalize wr.drew = V at *
      refine wpAnyH_take (i := 0) (v := u5) rfl (by kernel_rfl) (by kernel_rfl) (by kernel_rfl) (fun _ _ _ h => h) (Or.inl ⟨by kernel_rfl, fun u hu => by kernel_rfl⟩) hS ?_
      simp only [Act.put, List.getElem_toArray, List.getElem_cons_succ, List.getElem_cons_zero, List.setIfInBounds_toArray, List.set_cons_zero, List.set_cons_succ]
      refine wpAnyH_take (i := 1) (v := .slice (some ⟨b, off, none⟩) l.length c) rfl (by kernel_rfl) (by kernel_rfl) (by kernel_rfl) (fun _ _ _ h => h) (Or.inl ⟨by kernel_rfl, fun u hu => by kernel_rfl⟩) hS ?_
      simp only [Act.put, List.getElem_toArray, List.getElem_cons_succ, List.getElem_cons_zero, List.setIfInBounds_toArray, List.set_cons_zero, List.set_cons_succ]
      refine wpAnyH_take (i := 2) (v := .int .i64 (k : Int)) rfl (by kernel_rfl) (by kernel_rfl) (by kernel_rfl) (fun _ _ _ h => h) (Or.inl ⟨by kernel_rfl, fun u hu => by kernel_rfl⟩) hS ?_
      simp only [Act.put, List.getElem_toArray, List.getElem_cons_succ, List.getElem_cons_zero, List.setIfInBounds_toArray, List.set_cons_zero, List.set_cons_succ]
      refine wpAnyH_take (i := 3) (v := .pointer (some ⟨b, off + k * 3, none⟩)) rfl (by kernel_rfl) (by kernel_rfl) (by kernel_rfl) (fun _ _ _ h => h) (Or.inl ⟨by kernel_rfl, fun u hu => exec_ix rfl (by kernel_rfl) (by kernel_rfl) (ix_rev b off l.length c k hlt u)⟩) hS ?_
      simp only [Act.put, List.getElem_toArray, List.getElem_cons_succ, List.getElem_cons_zero, List.setIfInBounds_toArray, List.set_cons_zero, List.set_cons_succ]
      refine wpAnyH_take (i := 4) (v := .pointer (some ⟨b, off + k * 3, none⟩)) rfl (by kernel_rfl) (by kernel_rfl) (by kernel_rfl) (fun _ _ _ h => h) (Or.inl ⟨by kernel_rfl, fun u hu => by kernel_rfl⟩) hS ?_
      simp only [Act.put, List.getElem_toArray, List.getElem_cons_succ, List.getElem_cons_zero, List.setIfInBounds_toArray, List.set_cons_zero, List.set_cons_succ]
      refine wpAnyH_take (i := 5) (v := .int .i64 y.p) rfl (by kernel_rfl) (by kernel_rfl) (by kernel_rfl) (fun _ _ _ h => h) (Or.inl ⟨by kernel_rfl, fun u hu => exec_loadV (t := 3) (p := ⟨b, off + k * 3, none⟩) rfl (by kernel_rfl) (load_i64 hu.1)⟩) hS ?_
      simp only [Act.put, List.getElem_toArray, List.getElem_cons_succ, List.getElem_cons_zero, List.setIfInBounds_toArray, List.set_cons_zero, List.set_cons_succ]
      refine wpAnyH_take (i := 6) (v := .slice (some ⟨b, off, none⟩) l.length c) rfl (by kernel_rfl) (by kernel_rfl) (by kernel_rfl) (fun _ _ _ h => h) (Or.inl ⟨by kernel_rfl, fun u hu => by kernel_rfl⟩) hS ?_
      simp only [Act.put, List.getElem_toArray, List.getElem_cons_succ, List.getElem_cons_zero, List.setIfInBounds_toArray, List.set_cons_zero, List.set_cons_succ]
      refine wpAnyH_take (i := 7) (v := .int .i64 (k : Int)) rfl (by kernel_rfl) (by kernel_rfl) (by kernel_rfl) (fun _ _ _ h => h) (Or.inl ⟨by kernel_rfl, fun u hu => by kernel_rfl⟩) hS ?_
      simp only [Act.put, List.getElem_toArray, List.getElem_cons_succ, List.getElem_cons_zero, List.setIfInBounds_toArray, List.set_cons_zero, List.set_cons_succ]
      refine wpAnyH_take (i := 8) (v := .pointer (some ⟨b, off + k * 3, none⟩)) rfl (by kernel_rfl) (by kernel_rfl) (by kernel_rfl) (fun _ _ _ h => h) (Or.inl ⟨by kernel_rfl, fun u hu => exec_ix rfl (by kernel_rfl) (by kernel_rfl) (ix_rev b off l.length c k hlt u)⟩) hS ?_
      simp only [Act.put, List.getElem_toArray, List.getElem_cons_succ, List.getElem_cons_zero, List.setIfInBounds_toArray, List.set_cons_zero, List.set_cons_succ]
      refine wpAnyH_take (i := 9) (v := .pointer (some ⟨b, off + k * 3 + 1, none⟩)) rfl (by kernel_rfl) (by kernel_rfl) (by kernel_rfl) (fun _ _ _ h => h) (Or.inl ⟨by kernel_rfl, fun u hu => by kernel_rfl⟩) hS ?_
      simp only [Act.put, List.getElem_toArray, List.getElem_cons_succ, List.getElem_cons_zero, List.setIfInBounds_toArray, List.set_cons_zero, List.set_cons_succ]
      refine wpAnyH_take (i := 10) (v := .string y.s) rfl (by kernel_rfl) (by kernel_rfl) (by kernel_rfl) (fun _ _ _ h => h) (Or.inl ⟨by kernel_rfl, fun u hu => exec_loadV (t := 9) (p := ⟨b, off + k * 3 + 1, none⟩) rfl (by kernel_rfl) (load_str hu.2.1)⟩) hS ?_
      simp only [Act.put, List.getElem_toArray, List.getElem_cons_succ, List.getElem_cons_zero, List.setIfInBounds_toArray, List.set_cons_zero, List.set_cons_succ]
      refine wpAnyH_take (i := 12) (v := .slice (some ⟨b, off, none⟩) l.length c) rfl (by kernel_rfl) (by kernel_rfl) (by kernel_rfl) (fun _ _ _ h => h) (Or.inl ⟨by kernel_rfl, fun u hu => by kernel_rfl⟩) hS ?_
      simp only [Act.put, List.getElem_toArray, List.getElem_cons_succ, List.getElem_cons_zero, List.setIfInBounds_toArray, List.set_cons_zero, List.set_cons_succ]
      refine wpAnyH_take (i := 13) (v := .int .i64 (k : Int)) rfl (by kernel_rfl) (by kernel_rfl) (by kernel_rfl) (fun _ _ _ h => h) (Or.inl ⟨by kernel_rfl, fun u hu => by kernel_rfl⟩) hS ?_
      simp only [Act.put, List.getElem_toArray, List.getElem_cons_succ, List.getElem_cons_zero, List.setIfInBounds_toArray, List.set_cons_zero, List.set_cons_succ]
      refine wpAnyH_take (i := 14) (v := .pointer (some ⟨b, off + k * 3, none⟩)) rfl (by kernel_rfl) (by kernel_rfl) (by kernel_rfl) (fun _ _ _ h => h) (Or.inl ⟨by kernel_rfl, fun u hu => exec_ix rfl (by kernel_rfl) (by kernel_rfl) (ix_rev b off l.length c k hlt u)⟩) hS ?_
      simp only [Act.put, List.getElem_toArray, List.getElem_cons_succ, List.getElem_cons_zero, List.setIfInBounds_toArray, List.set_cons_zero, List.set_cons_succ]
      refine wpAnyH_take (i := 15) (v := .pointer (some ⟨b, off + k * 3 + 2, none⟩)) rfl (by kernel_rfl) (by kernel_rfl) (by kernel_rfl) (fun _ _ _ h => h) (Or.inl ⟨by kernel_rfl, fun u hu => by kernel_rfl⟩) hS ?_
      simp only [Act.put, List.getElem_toArray, List.getElem_cons_succ, List.getElem_cons_zero, List.setIfInBounds_toArray, List.set_cons_zero, List.set_cons_succ]
      refine wpAnyH_take (i := 16) (v := .slice aa y.a.length ca) rfl (by kernel_rfl) (by kernel_rfl) (by kernel_rfl) (fun _ _ _ h => h) (Or.inl ⟨by kernel_rfl, fun u hu => exec_loadV (t := 24) (p := ⟨b, off + k * 3 + 2, none⟩) rfl (by kernel_rfl) (load_ints hu.2.2)⟩) hS ?_
      simp only [Act.put, List.getElem_toArray, List.getElem_cons_succ, List.getElem_cons_zero, List.setIfInBounds_toArray, List.set_cons_zero, List.set_cons_succ]
      refine wpAnyH_ready (rs := [11]) (by kernel_rfl) (by simp) ?_
      refine AllReadyH.cons rfl (fun K hK => ?_) AllReadyH.nil
      simp only [List.getElem_toArray, List.getElem_cons_succ, List.getElem_cons_zero]
      refine wp_if (by kernel_rfl) ?_
      refine wp_val (v := .slice (some ⟨V.heap.size, 0, none⟩) 0 0) (w' := V.alloc (.cells #[] 3)) (by kernel_rfl) ?_
      have b2 := bel_new V #[] 3
      have J2 : Hid _ := ⟨OwnJ.empty V w.heap.size HBd.out.size⟩
      have T2 : Hid _ := ⟨HTd.out.bel b2⟩
      have B2 : Hid (Below w.heap.size w (V.alloc (.cells #[] 3))) := ⟨HBd.out.trans (b2.mono HBd.out.size)⟩
      refine hK.out _ _ (HCW.out _ B2.out) (fun hS => ?_)
      clear hK
      simp only [Act.put, List.getElem_toArray, List.getElem_cons_succ, List.getElem_cons_zero, List.setIfInBounds_toArray, List.set_cons_zero, List.set_cons_succ]
      generalize hW2 : V.alloc (.cells #[] 3) = W2 at *
      refine wpAnyH_ready (rs := [17]) (by kernel_rfl) (by simp) ?_
      refine AllReadyH.cons rfl (fun K hK => ?_) AllReadyH.nil
      simp only [List.getElem_toArray, List.getElem_cons_succ, List.getElem_cons_zero]
      refine wp_if (by kernel_rfl) ?_
      refine wp_appJ rfl J2.out (by kernel_rfl) (by kernel_rfl) (HIw.out.bel B2.out) hnil (by simp; omega) B2.out.size (fun v3 w3 h3 g3 => ?_)
      rw [List.nil_append] at h3
      have J3 : Hid _ := ⟨h3⟩
      have T3 : Hid _ := ⟨HTd.out.bel (b2.trans (bel_grown g3 (fun k hk => (by simp [Value.ownBlock] at hk; omega)) b2.size))⟩
      have B3 : Hid (Below w.heap.size w w3) := ⟨B2.out.trans (bel_grown g3 (fun k hk => (J2.out.lt k hk).1) B2.out.size)⟩
      obtain ⟨ja, jc, hj, _⟩ := h3.ia
      subst hj
      refine hK.out _ _ (HCW.out _ B3.out) (fun hS => ?_)
      clear hK
      simp only [Act.put, List.getElem_toArray, List.getElem_cons_succ, List.getElem_cons_zero, List.setIfInBounds_toArray, List.set_cons_zero, List.set_cons_succ]
      clear h3 g3
      refine wpAnyH_take (i := 18) (v := .agg #[.int .i64 y.p, .string y.s, .slice ja y.a.length jc]) rfl (by kernel_rfl) (by kernel_rfl) (by kernel_rfl) (fun _ _ _ h => h) (Or.inl ⟨by kernel_rfl, fun u hu => by kernel_rfl⟩) hS ?_
      simp only [Act.put, List.getElem_toArray, List.getElem_cons_succ, List.getElem_cons_zero, List.setIfInBounds_toArray, List.set_cons_zero, List.set_cons_succ]
      refine wpAnyH_ready (rs := [19]) (by kernel_rfl) (by simp) ?_
      refine AllReadyH.cons rfl (fun K hK => ?_) AllReadyH.nil
      simp only [List.getElem_toArray, List.getElem_cons_succ, List.getElem_cons_zero]
      refine wp_if (by kernel_rfl) ?_
      refine wp_val (v := .slice (some ⟨w3.heap.size, 0, none⟩) 1 1) (w' := w3.alloc (.cells #[.int .i64 y.p, .string y.s, .slice ja y.a.length jc] 27)) (build_V w3 rfl (by kernel_rfl)) ?_
      have b4 := bel_new w3 #[.int .i64 y.p, .string y.s, .slice ja y.a.length jc] 27
      have T4 : Hid _ := ⟨T3.out.bel b4⟩
      have J4 : Hid _ := ⟨J3.out.bel b4⟩
      have N4 : Hid _ := ⟨Bk.new w3 #[.int .i64 y.p, .string y.s, .slice ja y.a.length jc] 27⟩
      have B4 : Hid (Below w.heap.size w (w3.alloc (.cells #[.int .i64 y.p, .string y.s, .slice ja y.a.length jc] 27))) := ⟨B3.out.trans (b4.mono B3.out.size)⟩
      refine hK.out _ _ (HCW.out _ B4.out) (fun hS => ?_)
      clear hK
      simp only [Act.put, List.getElem_toArray, List.getElem_cons_succ, List.getElem_cons_zero, List.setIfInBounds_toArray, List.set_cons_zero, List.set_cons_succ]
      clear b4
      generalize w3.alloc (.cells #[.int .i64 y.p, .string y.s, .slice ja y.a.length jc] 27) = w4 at *
      refine wpAnyH_ready (rs := [20]) (by kernel_rfl) (by simp) ?_
      refine AllReadyH.cons rfl (fun K hK => ?_) AllReadyH.nil
      simp only [List.getElem_toArray, List.getElem_cons_succ, List.getElem_cons_zero]
      refine wp_if (by kernel_rfl) ?_
      refine wp_appV rfl (by kernel_rfl) (by kernel_rfl) T4.out N4.out J4.out (by simp; omega) B4.out.size (fun v5 w5 t5 g5 => ?_)
      have T5 : Hid _ := ⟨t5⟩
      have B5 : Hid (Below w.heap.size w w5) := ⟨B4.out.trans (bel_grown g5 (fun k hk => T4.out.low k hk) B4.out.size)⟩
      refine hK.out _ _ (HCW.out _ B5.out) (fun hS => ?_)
      clear hK
      simp only [Act.put, List.getElem_toArray, List.getElem_cons_succ, List.getElem_cons_zero, List.setIfInBounds_toArray, List.set_cons_zero, List.set_cons_succ]
      clear t5 g5
      refine wpAnyH_take (i := 21) (v := v5) rfl (by kernel_rfl) (by kernel_rfl) (by kernel_rfl) (fun _ _ _ h => h) (Or.inl ⟨by kernel_rfl, fun u hu => by kernel_rfl⟩) hS ?_
      simp only [Act.put, List.getElem_toArray, List.getElem_cons_succ, List.getElem_cons_zero, List.setIfInBounds_toArray, List.set_cons_zero, List.set_cons_succ]
      refine wpAnyH_done (by kernel_rfl) ?_ _
      go_wp2_with fail
      go_roundw
      case rel => exact ⟨k + 1, hlt, by go_num, ⟨by rw [HTk.out]; exact T5.out, B5.out⟩⟩
      case measure => simp [intOf]; omega
    · obtain rfl : k = l.length := by omega
      have HT0 : Hid (TV wr w.heap.size u5 l) := ⟨by have := HV.out.1; rwa [List.take_length] at this⟩
      have HB0 : Hid (Below w.heap.size w wr) := ⟨HV.out.2⟩
      clear HV
      obtain ⟨xa, xc, hx, hxe⟩ := HT0.out.evs
      subst hx
      have HXE : Hid _ := ⟨hxe⟩
      clear hxe HT0
      go_upto_region 7 with (go_at_call 4; (with_reducible refine (HPC.out _ _ _ HXE.out HB0.out).mono ?_); rintro e w6 ⟨v6, he, ho, hb⟩; subst he; have H6 : Hid (OwnP w6 wr.heap.size v6 O ∧ Evs w6 xa l ∧ Below w.heap.size w w6) := ⟨ho, HXE.out.bel hb, HB0.out.trans (hb.mono HB0.out.size)⟩; clear ho hb)
      go_upto_region 8 with (go_at_call 5; (with_reducible refine (HRC.out _ H6.out.2.2).mono ?_); rintro e w7 ⟨v7, he, ho, hb⟩; subst he; have H7 : Hid (OwnP w7 wr.heap.size v6 O ∧ OwnR w7 w6.heap.size v7 O ∧ Evs w7 xa l ∧ Evs w7 ao l ∧ Below w.heap.size w w7) := ⟨H6.out.1.bel hb, ho, H6.out.2.1.bel hb, HE.out.bel (H6.out.2.2.trans (hb.mono H6.out.2.2.size)), H6.out.2.2.trans (hb.mono H6.out.2.2.size)⟩; clear ho hb)
      obtain ⟨pa, pc, hv6, _, _, hq6, _⟩ := H7.out.1.any
      obtain ⟨qa, qc, hv7, _, _, hq7, _⟩ := H7.out.2.1.any
      subst hv6
      subst hv7
      have HQ : Hid (Oqs w7 pa O ∧ Oqs w7 qa O) := ⟨hq6, hq7⟩
      have HV7 : Hid (Evs w7 xa l ∧ Evs w7 ao l ∧ Below w.heap.size w w7) := ⟨H7.out.2.2⟩
      clear hq6 hq7 H7 H6 HXE HB0
      go_wp2
      go_loopw [11] (fun iv wq => ∃ i : Nat, i ≤ l.length ∧ iv = .int .i64 i ∧ Hid (Below w7.heap.size w7 wq)) (fun iv _ => l.length - (intOf iv).toNat)
      case atStart => exact ⟨0, by omega, rfl, ⟨Below.refl _ _⟩⟩
      case round =>
        obtain ⟨i, hi, rfl, HW⟩ := hrel
        obtain ⟨wq, hwq⟩ : ∃ wq, wq = wr := ⟨_, rfl⟩
        subst hwq
        by_cases hli : i < l.length
        · obtain ⟨b1, o1, rfl, hat1⟩ : ∃ b off, xa = some ⟨b, off, none⟩ ∧ ∀ i, i < l.length → EvAt wq b (off + i * 3) (l.getD i Ev.zero) := by
            rcases HV7.out.1.bel HW.out with h | h
            · omega
            · exact h
          obtain ⟨b2, o2, rfl, hat2⟩ : ∃ b off, ao = some ⟨b, off, none⟩ ∧ ∀ i, i < l.length → EvAt wq b (off + i * 3) (l.getD i Ev.zero) := by
            rcases HV7.out.2.1.bel HW.out with h | h
            · omega
            · exact h
          have q1 : (i : Int) < (l.length : Int) := by omega
          have q0 : (0 : Int) ≤ (i : Int) := by omega
          obtain ⟨aa1, ca1, x0, x1, x2, hI1⟩ := hat1 i hli
          obtain ⟨aa2, ca2, y0, y1, y2, hI2⟩ := hat2 i hli
          have hya := (HOk.out _ (ev_in hli)).2
          clear hat1 hat2 x0 x1 y0 y1
          generalize l.getD i Ev.zero = y at *
          have hya' : (y.a.length : Int) ≤ 17592186044000 := by omega
          have HI1 : Hid _ := ⟨hI1⟩
          have HI2 : Hid _ := ⟨hI2⟩
          clear hI1 hI2
          go_wp2
          go_loopw [12] (fun jv wz => ∃ j : Nat, j ≤ y.a.length ∧ jv = .int .i64 j ∧ Hid (Below wq.heap.size wq wz)) (fun jv _ => y.a.length - (intOf jv).toNat)
          case atStart => exact ⟨0, by omega, rfl, ⟨Below.refl _ _⟩⟩
          case round =>
            obtain ⟨j, hj, rfl, HZ⟩ := hrel
            obtain ⟨wz, hwz⟩ : ∃ wz, wz = wr := ⟨_, rfl⟩
            subst hwz
            have z1 := up_belI x2 HZ.out
            have z2 := up_belI y2 HZ.out
            have r0 : (0 : Int) ≤ (j : Int) := by omega
            by_cases hjl : j < y.a.length
            · have r1 : (j : Int) < (y.a.length : Int) := by omega
              obtain ⟨b3, o3, rfl, hc3⟩ : ∃ b off, aa1 = some ⟨b, off, none⟩ ∧ ∀ i, i < y.a.length → wz.cell? ⟨b, off + i, none⟩ = some (.int .i64 (y.a.getD i 0)) := by
                rcases HI1.out.bel HZ.out with h | h
                · omega
                · exact h
              obtain ⟨b4, o4, rfl, hc4⟩ : ∃ b off, aa2 = some ⟨b, off, none⟩ ∧ ∀ i, i < y.a.length → wz.cell? ⟨b, off + i, none⟩ = some (.int .i64 (y.a.getD i 0)) := by
                rcases HI2.out.bel HZ.out with h | h
                · omega
                · exact h
              have m3 := hc3 j hjl
              have m4 := hc4 j hjl
              clear hc3 hc4
              generalize y.a.getD j 0 = z at *
              have n6 : ((z : Int) != z) = false := by simp
              go_wp2
              go_quiet (fail)
              go_wp2
              go_roundw
              case rel => exact ⟨j + 1, hjl, by go_num, ⟨cbelow_drewN HZ.out _⟩⟩
              case measure => simp [intOf]; omega
            · obtain rfl : j = y.a.length := by omega
              go_wp2
              go_roundw
              case rel => exact ⟨i + 1, hli, by go_num, ⟨HW.out.trans (HZ.out.mono HW.out.size)⟩⟩
              case measure => simp [intOf]; omega
        · obtain rfl : i = l.length := by omega
          have H8 : Hid (Oqs wq pa O ∧ Oqs wq qa O ∧ Below w.heap.size w wq) := ⟨HQ.out.1.bel HW.out, HQ.out.2.bel HW.out, HV7.out.2.2.trans (HW.out.mono HV7.out.2.2.size)⟩
          have hOl : O.length ≤ 9223372036854775806 := by have := HLc.out; omega
          have n2 : ((E : Int) == E) = true := by simp
          have HUs : Hid (∀ w : World, Calls Tryd.prog 8 #[] w fun e w' => ∃ v, e = .returned v ∧ OwnP w' w.heap.size v kI ∧ Below w.heap.size w w') := ⟨pusual⟩
          clear HQ HV7 HW
          go_wp2_with (first
            | (go_at_call 7; (with_reducible refine (cnum_any _ _).mono ?_); rintro e wn ⟨he, hwn⟩; subst he; subst wn)
            | (go_at_call 10; (with_reducible refine (HKn.out _ HG.out).mono ?_); rintro e wk ⟨he, hb⟩; subst he; have HK : Hid (Below w.heap.size w wk) := ⟨HG.out.trans (hb.mono HG.out.size)⟩; clear hb)
            | (go_at_call 6; (with_reducible refine (same_any _ _ _ _ kI _ (by decide) HUu.out.1 HUu.out.2.1).mono ?_); rintro e wg ⟨he, hb⟩; subst he; have HG : Hid (Below w.heap.size w wg) := ⟨HUu.out.2.2.trans (hb.mono HUu.out.2.2.size)⟩; clear hb)
            | (go_at_call 6; (with_reducible refine (same_any pa qa pc qc O _ hOl H8.out.1 H8.out.2.1).mono ?_); rintro e ws ⟨he, hb⟩; subst he; have HS : Hid (Below w.heap.size w ws) := ⟨H8.out.2.2.trans (hb.mono H8.out.2.2.size)⟩; clear hb)
            | (go_at_call 8; (with_reducible refine (HUs.out _).mono ?_); rintro e wu ⟨vu, he, ho, hb⟩; obtain ⟨ua, uc, hvu, _, _, hqu, _⟩ := ho.any; subst hvu; subst he; have HU1 : Hid (Oqs wu ua kI ∧ Below w.heap.size w wu) := ⟨hqu, HS.out.trans (hb.mono HS.out.size)⟩; clear ho hb hqu)
            | (go_at_call 9; (with_reducible refine (rusual_any _).mono ?_); rintro e wv ⟨vv, he, ho, hb⟩; obtain ⟨va, vc, hvv, _, _, hqv, _⟩ := ho.any; subst hvv; subst he; have HUu : Hid (Oqs wv ua kI ∧ Oqs wv va kI ∧ Below w.heap.size w wv) := ⟨HU1.out.1.bel hb, hqv, HU1.out.2.trans (hb.mono HU1.out.2.size)⟩; clear ho hb hqv))
          go_ret
          exact ⟨rfl, HK.out⟩
theorem cfaCompiles_wk (a0 : Option Addr) (c0 : Nat) (z0 : List Ev) (size : Int) (w : World) (h0 : Evs w a0 z0) (y0 : z0.length ≤ 2932031007400 ∧ (∀ x ∈ z0, x.a.length ≤ 17592186044000) ∧ (∀ x ∈ z0, (Lit.int .i64 x.p).wf = true) ∧ EvNil w a0 z0) (w1 : (Lit.int .i64 size).wf = true) (hf : Fz w) :
    Calls Tryd.prog 3 #[.slice a0 z0.length c0, .int .i64 size] w fun e w' => e = .returned (.bool true) ∧ Below w.heap.size w w' :=
  cfaCompiles_walk a0 c0 z0 size w h0 y0.1 (fun x hx => ⟨i64_inM (y0.2.2.1 x hx), y0.2.1 x hx⟩) y0.2.2.2 (i64_inM w1) hf
end Go.Proofs.YtpbnldfekadalaaDoor
