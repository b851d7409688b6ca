/- The document's Write of any tables, its Check given. -/
import Derived.Test.YtomboebfbipaaaaDoorERFde
import Derived.Test.YtomboebfbipaaaaDoorERCie
import Derived.Test.YtomboebfbipaaaaDoorEWriX
namespace Go.Proofs.YtomboebfbipaaaaDoor
open Go.ChangeShapes Go.WideShapes Go.ChangeAt Go.RowKit Go.Maps
set_option linter.unusedVariables false
set_option linter.unusedSimpArgs false

/-- Bytes and places of the call's own. -/
structure RS (w wr : World) (tb n : Nat) (L A : List Int) (v : Value) : Prop where
  own : Own wr w.heap.size v L
  at' : Bk wr tb 3 (A.map (Value.int .i64)).toArray
  len : A.length = n
  lo : w.heap.size ≤ tb
  bel : Below w.heap.size w wr
section
variable {w wr wr' : World} {tb n : Nat} {L A L' : List Int} {v v' : Value}
theorem RS.to (h : RS w wr tb n L A v) (hb : Below wr.heap.size wr wr') : RS w wr' tb n L A v := ⟨h.own.bel hb, h.at'.bel hb h.at'.lt, h.len, h.lo, h.bel.trans (hb.mono h.bel.size)⟩
theorem RS.app (h : RS w wr tb n L A v) (hA : AE w.heap.size wr v wr' v' L') : RS w wr' tb n L' A v' :=
  ⟨hA.own, h.at'.of (hA.gr.block tb h.at'.lt (fun e => h.own.not_bk h.at' (by decide) e.symm)), h.len, h.lo, h.bel.trans (hA.bel h.own h.bel.size)⟩
theorem RS.set (h : RS w wr tb n L A v) (i : Nat) (x : Int) : RS w (wr.setRow tb ((A.set i x).map (Value.int .i64)).toArray) tb n L (A.set i x) v :=
  ⟨own_far h.own (grown_set wr tb _) (fun e => h.own.not_bk h.at' (by decide) e.symm), h.at'.setR _, by simp [h.len], h.lo, h.bel.trans (below_set _ _ _ h.lo)⟩
end
/-- A common entry's cells. -/
structure CeC (w : World) (b off : Nat) (x : Ce) (a : Option Addr) (c : Nat) : Prop where
  c0 : w.cell? ⟨b, off, none⟩ = some (.int .i64 x.enc)
  c1 : w.cell? ⟨b, off + 1, none⟩ = some (.slice a x.ini.length c)
theorem CeC.bel {w w' : World} {b off : Nat} {x : Ce} {a : Option Addr} {c : Nat} (h : CeC w b off x a c) (hb : Below w.heap.size w w') : CeC w' b off x a c := ⟨up_bel h.c0 hb, up_bel h.c1 hb⟩
theorem ix_rcieW (b off n c k : Nat) (hk : k < n) (W : World) : (Instr.indexAt 37 (.slice (some ⟨b, off, none⟩) n c) (.int .i64 (k : Int))).run Tryd.prog W = .ok (.pointer (some ⟨b, off + k * 2, none⟩)) W := by
  have hi : (Tryd.prog.info? 54).map (·.size) = some 2 := by kernel_rfl
  cases hq : Tryd.prog.info? 54 with
  | none => simp [hq] at hi
  | some i =>
    have hi1 : i.size = 2 := by simpa [hq] using hi
    simp [Instr.indexAt, run_underlying Tryd.underlying37, asIntOf, sizeOf, typeInfo, hq, hi1, caddr_add, hk]
theorem ix_rfdeW (b off n c k : Nat) (hk : k < n) (W : World) : (Instr.indexAt 38 (.slice (some ⟨b, off, none⟩) n c) (.int .i64 (k : Int))).run Tryd.prog W = .ok (.pointer (some ⟨b, off + k * 4, none⟩)) W := by
  have hi : (Tryd.prog.info? 79).map (·.size) = some 4 := by kernel_rfl
  cases hq : Tryd.prog.info? 79 with
  | none => simp [hq] at hi
  | some i =>
    have hi1 : i.size = 4 := by simpa [hq] using hi
    simp [Instr.indexAt, run_underlying Tryd.underlying38, asIntOf, sizeOf, typeInfo, hq, hi1, caddr_add, hk]
theorem load_rfde {w : World} {b off : Nat} {x : Fe} {a : Option Addr} {c : Nat} (h : FeC w b off x a c) : (loadVar 79 ⟨b, off, none⟩).run Tryd.prog w = .ok (.agg #[.int .i64 x.cie, .int .i64 x.beg, .int .i64 x.size, .slice a x.ops.length c]) w := by
  simp [loadVar, isAgg, run_underlying Tryd.underlying79, go_sem, h.c0, h.c1, h.c2, h.c3]
theorem grp_pre (f : List Fe) (k j n : Nat) (h : j ≤ n) : ∃ r, grp f n k = grp f j k ++ r := by
  obtain ⟨d, rfl⟩ : ∃ d, n = j + d := ⟨n - j, by omega⟩
  unfold grp
  rw [List.range_add, List.filter_append, List.map_append]
  exact ⟨_, rfl⟩
theorem step_eq {addr enc : Int} {place : Nat} {f : List Fe} {j k : Nat} {s : List Int × List Int} {L A : List Int} (hj : j < f.length) (hq : (f.getD j Fe.zero).cie = (k : Int)) (hg : grpM addr enc place f (grp f j k) s = some (L, A)) :
    grpM addr enc place f (grp f (j + 1) k) s = (match fdeM addr enc place (f.getD j Fe.zero) L with | none => none | some L' => some (L', A.set j (L.length : Int))) := by
  rw [← grp_succ hj hq k, if_pos rfl, grpM_app, hg]
  exact grpM_one
theorem step_ne {f : List Fe} {j k : Nat} (hj : j < f.length) (h0 : 0 ≤ (f.getD j Fe.zero).cie) (hq : (f.getD j Fe.zero).cie ≠ (k : Int)) : grp f (j + 1) k = grp f j k := by
  have := grp_succ hj (q := (f.getD j Fe.zero).cie.toNat) (by omega) k
  rw [if_neg (by omega)] at this
  exact this.symm
theorem step_no {addr enc : Int} {place : Nat} {f : List Fe} {j k : Nat} {s : List Int × List Int} (hj : j ≤ f.length) (hg : grpM addr enc place f (grp f j k) s = none) : grpM addr enc place f (grp f f.length k) s = none := by
  obtain ⟨r, hr⟩ := grp_pre f k j f.length hj
  rw [hr, grpM_app, hg]
theorem len_more {l l' j : Nat} (h : l' ≤ l + 90000 * (j + 1)) : l' ≤ l + 90000 * (j + 1 + 1) := Nat.le_trans h (Nat.add_le_add_left (Nat.mul_le_mul_left _ (Nat.le_succ _)) _)
theorem le_app {n : Nat} {X : List Int} (h : n ≤ X.length) (Y : List Int) : n ≤ (X ++ Y).length := by rw [List.length_append]; exact Nat.le_trans h (Nat.le_add_right _ _)
theorem len_3 {k l l' j : Nat} (h1 : l ≤ k * 361000000) (hk : k ≤ 4000) (h2 : l' ≤ l + 90000 * (j + 1)) (hj : j ≤ 4000) : l' ≤ 3000000000000 := by
  have h3 : k * 361000000 ≤ 4000 * 361000000 := Nat.mul_le_mul_right _ hk
  have h4 : 90000 * (j + 1) ≤ 90000 * 4001 := Nat.mul_le_mul_left _ (Nat.succ_le_succ hj)
  exact Nat.le_trans (Nat.le_trans h2 (Nat.add_le_add (Nat.le_trans h1 h3) h4)) (by decide)
theorem fdeM_none {addr enc : Int} {place : Nat} {x : Fe} {L : List Int} (h : fdeR addr enc place L.length x = none) : fdeM addr enc place x L = none := by rw [fde_both, h]; rfl
theorem fdeM_some {addr enc : Int} {place : Nat} {x : Fe} {L R : List Int} (h : fdeR addr enc place L.length x = some R) : fdeM addr enc place x L = some (L ++ R) := by rw [fde_both, h]; rfl

set_option maxRecDepth 20000 in
set_option maxHeartbeats 16000000 in
theorem rwri_any (ac : Option Addr) (cc : Nat) (c : List Ce) (af : Option Addr) (cf : Nat) (f : List Fe) (addr : Int) (en : Bool) (w : World) (hC : Cs w ac c) (hF : Fs w af f)
    (hCk : Calls Tryd.prog 16 #[.slice ac c.length cc, .slice af f.length cf] w fun e w' => e = .returned (.int .i64 (checkE c f)) ∧ Below w.heap.size w w') :
    Calls Tryd.prog 14 #[.slice ac c.length cc, .slice af f.length cf, .int .i64 addr, .bool en] w (WrEnd (wriR c f addr en) w) := by
  have HCk : Hid _ := ⟨hCk⟩
  clear hCk
  by_cases hce : checkE c f = 0
  rotate_left
  · have hr : wriR c f addr en = (checkE c f, [], []) := by unfold wriR; rw [if_pos hce]
    rw [hr]
    generalize checkE c f = E at *
    have n1 : (E != 0) = true := by simpa using hce
    have n2 : (E == 0) = false := by simpa using hce
    clear hC hF hr
    go_enter Tryd.func14, Tryd.ntmps14
    go_wp2_with (go_at_call 16; (with_reducible refine HCk.out.mono ?_); rintro e w1 ⟨he, hb1⟩; subst he; have HB1 : Hid _ := ⟨hb1⟩; clear hb1)
    go_ret3
    exact WrEnd.bad HB1.out
  rw [hce] at HCk
  by_cases hst : 0 ≤ addr ∧ addr ≤ 576460752303423488
  rotate_left
  · have hr : wriR c f addr en = (11, [], []) := by
      unfold wriR
      rw [if_neg (by rw [hce]; simp), if_pos (by omega)]
    rw [hr]
    clear hC hF hr
    by_cases h0 : addr < 0
    · clear hst
      go_enter Tryd.func14, Tryd.ntmps14
      go_wp2_with (go_at_call 16; (with_reducible refine HCk.out.mono ?_); rintro e w1 ⟨he, hb1⟩; subst he; have HB1 : Hid _ := ⟨hb1⟩; clear hb1)
      go_ret3
      exact WrEnd.bad HB1.out
    · have h1 : 576460752303423488 < addr := by omega
      clear hst
      go_enter Tryd.func14, Tryd.ntmps14
      go_wp2_with (go_at_call 16; (with_reducible refine HCk.out.mono ?_); rintro e w1 ⟨he, hb1⟩; subst he; have HB1 : Hid _ := ⟨hb1⟩; clear hb1)
      go_ret3
      exact WrEnd.bad HB1.out
  have hk0 := check_0 hce
  obtain ⟨hci, hfi, hc4, hf4⟩ := too_cl hk0.1
  obtain ⟨hce2, hnf⟩ := nums_in hk0.2
  have hr : wriR c f addr en = wriT en (runM addr c f c.length) := by
    unfold wriR
    rw [if_neg (by rw [hce]; simp), if_neg (by omega)]
  rw [hr]
  have HC : Hid _ := ⟨hC⟩
  have HF : Hid _ := ⟨hF⟩
  have HCI : Hid _ := ⟨hci⟩
  have HFI : Hid _ := ⟨hfi⟩
  have HE2 : Hid _ := ⟨hce2⟩
  have HNF : Hid _ := ⟨hnf⟩
  have HAd : Hid _ := ⟨hst⟩
  have d0 : ¬ addr < 0 := by omega
  have d1 : ¬ 576460752303423488 < addr := by omega
  have hmk := makeI f.length hf4
  clear hC hF hci hfi hce2 hnf hr hst hk0 hce
  go_enter Tryd.func14, Tryd.ntmps14
  go_upto_region 8 with (go_at_call 16; (with_reducible refine HCk.out.mono ?_); rintro e w1 ⟨he, hb1⟩; subst he; have HB1 : Hid _ := ⟨hb1⟩; clear hb1)
  have HS0 : Hid (RS w (w1.alloc (.cells (Array.replicate f.length (Value.int .i64 0)) 3)) w1.heap.size f.length [] (List.replicate f.length 0) (.slice none 0 0)) := ⟨⟨Own.nil _ _, by simpa using Bk.new w1 (Array.replicate f.length (Value.int .i64 0)) 3, by simp, HB1.out.size, HB1.out.alloc HB1.out.size _⟩⟩
  generalize w1.alloc (.cells (Array.replicate f.length (Value.int .i64 0)) 3) = w2 at *
  generalize w1.heap.size = tb at *
  clear HB1 HCk d0 d1 hmk
  go_wp2
  go_loopw [12, 14, 15] (fun v12 v14 iv wr => ∃ k : Nat, k ≤ c.length ∧ iv = .int .i64 k ∧ Hid (∃ L A, v14 = .bool (decide ((1048576 : Int) < (L.length : Int))) ∧ runM addr c f k = some (L, A) ∧ RS w wr tb f.length L A v12 ∧ L.length ≤ k * 361000000)) (fun _ _ iv _ => c.length - (intOf iv).toNat)
  case atStart => exact ⟨0, by omega, rfl, ⟨[], _, by simp, rfl, HS0.out, by simp⟩⟩
  case round =>
    clear HS0
    obtain ⟨k, hk, rfl, HV⟩ := hrel
    by_cases hlt : k < c.length
    · obtain ⟨L, A, hlong, hrun, hRS, hLl⟩ := HV.out
      obtain ⟨bl, hbl⟩ : ∃ bl, decide ((1048576 : Int) < (L.length : Int)) = bl := ⟨_, rfl⟩
      rw [hbl] at hlong
      subst hlong
      have HBl : Hid _ := ⟨hbl⟩
      clear hbl
      have q1 : (k : Int) < (c.length : Int) := by omega
      have q0 : (0 : Int) ≤ (k : Int) := by omega
      have hbw : Below w.heap.size w wr := hRS.bel
      obtain ⟨b, off, rfl, hat⟩ : ∃ b off, ac = some ⟨b, off, none⟩ ∧ ∀ j, j < c.length → CeAt w b (off + j * 2) (c.getD j Ce.zero) := by
        rcases HC.out with h | h
        · omega
        · exact h
      obtain ⟨a, cp, c0, c1, hI⟩ := hat k hlt
      have HCC : Hid (CeC w b (off + k * 2) (c.getD k Ce.zero) a cp) := ⟨⟨c0, c1⟩⟩
      replace c0 := up_bel c0 hbw
      replace c1 := up_bel c1 hbw
      have he2 := enc_of (HE2.out _ (ce_in hlt))
      have hil := HCI.out _ (ce_in hlt)
      have hrs := rec_short (cieB (c.getD k Ce.zero).enc) (c.getD k Ce.zero).ini (by simp [cieB])
      have hrl := rec_len 0 (cieB (c.getD k Ce.zero).enc) (c.getD k Ce.zero).ini
      have hrun1 : runM addr c f (k + 1) = grpM addr (c.getD k Ce.zero).enc L.length f (grp f f.length k) (L ++ recB 0 (cieB (c.getD k Ce.zero).enc) (c.getD k Ce.zero).ini, A) := run_succ hrun
      clear hat
      generalize (c.getD k Ce.zero) = y at *
      have HCi : Hid (∀ W, Below w.heap.size w W → Calls Tryd.prog 43 #[.agg #[.int .i64 y.enc, .slice a y.ini.length cp]] W fun e w' => ∃ v, e = .returned v ∧ Own w' W.heap.size v (recB 0 (cieB y.enc) y.ini) ∧ Below W.heap.size W w') := ⟨fun W hW => rcie_any y a cp W (by omega) (by omega) hil (hI.bel hW)⟩
      generalize hR0 : recB 0 (cieB y.enc) y.ini = R0 at *
      have HR1 : Hid _ := ⟨hrun1⟩
      have HLl : Hid (L.length ≤ k * 361000000 ∧ R0.length ≤ 90000) := ⟨hLl, by omega⟩
      have hL15 : L.length ≤ 2000000000000 := by omega
      have HEn : Hid (0 ≤ y.enc ∧ y.enc ≤ 60) := ⟨he2.2.2.2⟩
      have H4 : Hid _ := ⟨hRS⟩
      have HBw : Hid _ := ⟨hbw⟩
      obtain ⟨xa, xc, hv, _⟩ := hRS.own.bt
      subst hv
      have HL15 : Hid _ := ⟨hL15⟩
      clear hrun hrun1 hRS hLl hI he2 hil hrs hrl hbw HV hR0 hL15
      go_upto_region 14 with (first
        | (go_at_call 43; (with_reducible refine (HCi.out _ HBw.out).mono ?_); rintro e w5 ⟨v5, he, ho, hb⟩; subst he; have O5 : Hid _ := ⟨ho⟩; have H5 : Hid _ := ⟨H4.out.to hb⟩; clear ho hb)
        | (at_builtin; refine append_bk w5 rfl _ _ rfl w.heap.size (.slice xa L.length xc) L rfl H5.out.own v5 R0 rfl O5.out.bt (by have := HLl.out.2; have := HL15.out; omega) H5.out.bel.size ?_; intro v6 w6 hA; have H6 : Hid (RS w w6 tb f.length (L ++ R0) A v6) := ⟨H5.out.app hA⟩; clear hA))
      clear c0 c1 HCi H4 H5 O5 HBw
      go_wp2
      go_loopw [12, 17] (fun v12 iv wq => ∃ j : Nat, j ≤ f.length ∧ iv = .int .i64 j ∧ Hid (∃ L' A', grpM addr y.enc L.length f (grp f j k) (L ++ R0, A) = some (L', A') ∧ RS w wq tb f.length L' A' v12 ∧ L.length ≤ L'.length ∧ L'.length ≤ L.length + 90000 * (j + 1))) (fun _ iv _ => f.length - (intOf iv).toNat)
      case atStart => exact ⟨0, by omega, rfl, ⟨L ++ R0, A, rfl, H6.out, by simp, by have := HLl.out.2; simp; omega⟩⟩
      case round =>
        clear H6
        obtain ⟨j, hj, rfl, HU⟩ := hrel
        by_cases hjl : j < f.length
        · obtain ⟨L', A', hg, hRS, hl1, hl2⟩ := HU.out
          have q3 : (j : Int) < (f.length : Int) := by omega
          have q4 : (0 : Int) ≤ (j : Int) := by omega
          obtain ⟨fb, fo, haf, hatf⟩ : ∃ b off, af = some ⟨b, off, none⟩ ∧ ∀ j, j < f.length → FeAt w b (off + j * 4) (f.getD j Fe.zero) := by
            rcases HF.out with h | h
            · omega
            · exact h
          subst haf
          obtain ⟨fa, fcp, x0, x1, x2, x3, hIf⟩ := hatf j hjl
          have HFC : Hid (FeC w fb (fo + j * 4) (f.getD j Fe.zero) fa fcp) := ⟨⟨x0, x1, x2, x3⟩⟩
          have x0' := up_bel x0 hRS.bel
          have hci0 := fe_in1 (HNF.out _ (fe_in hjl))
          have hol := HFI.out _ (fe_in hjl)
          have HIf : Hid _ := ⟨hIf⟩
          clear x0 x1 x2 x3 hatf hIf HU
          by_cases hq : (f.getD j Fe.zero).cie = (k : Int)
          rotate_left
          · have hne := step_ne hjl hci0 hq
            rw [← hne] at hg
            have HGm : Hid _ := ⟨hg⟩
            have H6 : Hid _ := ⟨hRS⟩
            generalize (f.getD j Fe.zero) = x at *
            have n1 : (x.cie != (k : Int)) = true := by simpa using hq
            have n2 : (x.cie == (k : Int)) = false := by simpa using hq
            clear hg hRS hne
            go_wp2
            go_roundw
            case rel => exact ⟨j + 1, by omega, by go_num, ⟨L', A', HGm.out, H6.out, hl1, len_more hl2⟩⟩
            case measure => simp [intOf]; omega
          · have hst := step_eq hjl hq hg
            have HSt : Hid _ := ⟨hst⟩
            rw [hq] at x0'
            obtain ⟨xa, xc, hv, _⟩ := hRS.own.bt
            subst hv
            have hjA : j < A'.length := by rw [hRS.len]; exact hjl
            have a1 : wr.cell? ⟨tb, j, none⟩ = some (.int .i64 (A'.getD j 0)) := hRS.at'.cell j (by simp [hjA])
            have a2 := hRS.at'.fro
            have hset := setA hRS.at' j (L'.length : Int)
            have S6 := hRS.set j (L'.length : Int)
            have HSet : Hid _ := ⟨hset⟩
            have H6 : Hid _ := ⟨S6⟩
            clear hg hRS hst hset S6
            go_upto_region 19 with (fail)
            rw [HSet.out]
            clear a1 a2 x0' HSet
            generalize (wr.setRow tb ((A'.set j (L'.length : Int)).map (Value.int .i64)).toArray) = w6 at *
            have hd6 : Below w6.heap.size w6 w6.drew := (Below.refl _ _).drew
            have S6 := H6.out.to hd6
            have FC6 := HFC.out.bel S6.bel
            have CC6 := HCC.out.bel S6.bel
            have HFd : Hid _ := ⟨rfde_any (f.getD j Fe.zero) y.enc addr L.length L'.length fa fcp w6.drew HEn.out.1 (Int.le_trans HEn.out.2 (by decide)) HAd.out.1 HAd.out.2 (len_15 HLl.out.1 (Nat.le_trans hk hc4) hl2 (Nat.le_trans hj hf4)) hl1 (len_gap hl2 (Nat.le_trans hj hf4)) hol (HIf.out.bel S6.bel)⟩
            have HS6 : Hid _ := ⟨S6⟩
            have HLw : Hid _ := ⟨fun h => fdeM_len (addr := addr) (enc := y.enc) (place := L.length) (x := f.getD j Fe.zero) (L := L') (L' := h)⟩
            generalize hxx : (f.getD j Fe.zero) = x at *
            have HXX : Hid _ := ⟨hxx⟩
            clear hxx hd6 S6 HIf H6 hol hci0 hq
            cases hm : fdeR addr y.enc L.length L'.length x with
            | none =>
              rw [hm] at HFd
              refine wp_region_held_drew (S := fun u => CeC u b (off + k * 2) y a cp ∧ FeC u fb (fo + j * 4) x fa fcp) (by kernel_rfl) ⟨CC6, FC6⟩ (fun hS => ?_)
              refine wpAnyH_take (i := 0) (v := .slice (some ⟨fb, fo, none⟩) f.length cf) rfl (by kernel_rfl) (by kernel_rfl) (by kernel_rfl) (fun _ _ _ h => h) (Or.inl ⟨by kernel_rfl, fun u hu => by kernel_rfl⟩) hS ?_
              simp only [Act.put, List.getElem_toArray, List.getElem_cons_succ, List.getElem_cons_zero, List.setIfInBounds_toArray, List.set_cons_zero, List.set_cons_succ]
              refine wpAnyH_take (i := 1) (v := .int .i64 (j : Int)) rfl (by kernel_rfl) (by kernel_rfl) (by kernel_rfl) (fun _ _ _ h => h) (Or.inl ⟨by kernel_rfl, fun u hu => by kernel_rfl⟩) hS ?_
              simp only [Act.put, List.getElem_toArray, List.getElem_cons_succ, List.getElem_cons_zero, List.setIfInBounds_toArray, List.set_cons_zero, List.set_cons_succ]
              refine wpAnyH_take (i := 2) (v := .pointer (some ⟨fb, fo + j * 4, none⟩)) rfl (by kernel_rfl) (by kernel_rfl) (by kernel_rfl) (fun _ _ _ h => h) (Or.inl ⟨by kernel_rfl, fun u hu => exec_ix rfl (by kernel_rfl) (by kernel_rfl) (ix_rfdeW fb fo f.length cf j hjl u)⟩) hS ?_
              simp only [Act.put, List.getElem_toArray, List.getElem_cons_succ, List.getElem_cons_zero, List.setIfInBounds_toArray, List.set_cons_zero, List.set_cons_succ]
              refine wpAnyH_take (i := 3) (v := .agg #[.int .i64 x.cie, .int .i64 x.beg, .int .i64 x.size, .slice fa x.ops.length fcp]) rfl (by kernel_rfl) (by kernel_rfl) (by kernel_rfl) (fun _ _ _ h => h) (Or.inl ⟨by kernel_rfl, fun u hu => exec_loadV (t := 79) (p := ⟨fb, fo + j * 4, none⟩) rfl (by kernel_rfl) (load_rfde hu.2)⟩) hS ?_
              simp only [Act.put, List.getElem_toArray, List.getElem_cons_succ, List.getElem_cons_zero, List.setIfInBounds_toArray, List.set_cons_zero, List.set_cons_succ]
              refine wpAnyH_take (i := 4) (v := .slice (some ⟨b, off, none⟩) c.length cc) rfl (by kernel_rfl) (by kernel_rfl) (by kernel_rfl) (fun _ _ _ h => h) (Or.inl ⟨by kernel_rfl, fun u hu => by kernel_rfl⟩) hS ?_
              simp only [Act.put, List.getElem_toArray, List.getElem_cons_succ, List.getElem_cons_zero, List.setIfInBounds_toArray, List.set_cons_zero, List.set_cons_succ]
              refine wpAnyH_take (i := 5) (v := .int .i64 (k : Int)) rfl (by kernel_rfl) (by kernel_rfl) (by kernel_rfl) (fun _ _ _ h => h) (Or.inl ⟨by kernel_rfl, fun u hu => by kernel_rfl⟩) hS ?_
              simp only [Act.put, List.getElem_toArray, List.getElem_cons_succ, List.getElem_cons_zero, List.setIfInBounds_toArray, List.set_cons_zero, List.set_cons_succ]
              refine wpAnyH_take (i := 6) (v := .pointer (some ⟨b, off + k * 2, none⟩)) rfl (by kernel_rfl) (by kernel_rfl) (by kernel_rfl) (fun _ _ _ h => h) (Or.inl ⟨by kernel_rfl, fun u hu => exec_ix rfl (by kernel_rfl) (by kernel_rfl) (ix_rcieW b off c.length cc k hlt u)⟩) hS ?_
              simp only [Act.put, List.getElem_toArray, List.getElem_cons_succ, List.getElem_cons_zero, List.setIfInBounds_toArray, List.set_cons_zero, List.set_cons_succ]
              refine wpAnyH_take (i := 7) (v := .pointer (some ⟨b, off + k * 2, none⟩)) rfl (by kernel_rfl) (by kernel_rfl) (by kernel_rfl) (fun _ _ _ h => h) (Or.inl ⟨by kernel_rfl, fun u hu => by kernel_rfl⟩) hS ?_
              simp only [Act.put, List.getElem_toArray, List.getElem_cons_succ, List.getElem_cons_zero, List.setIfInBounds_toArray, List.set_cons_zero, List.set_cons_succ]
              refine wpAnyH_take (i := 8) (v := .int .i64 y.enc) rfl (by kernel_rfl) (by kernel_rfl) (by kernel_rfl) (fun _ _ _ h => h) (Or.inl ⟨by kernel_rfl, fun u hu => exec_loadV (t := 3) (p := ⟨b, off + k * 2, none⟩) rfl (by kernel_rfl) (load_i64 hu.1.c0)⟩) hS ?_
              simp only [Act.put, List.getElem_toArray, List.getElem_cons_succ, List.getElem_cons_zero, List.setIfInBounds_toArray, List.set_cons_zero, List.set_cons_succ]
              refine wpAnyH_take (i := 9) (v := .slice xa L'.length xc) rfl (by kernel_rfl) (by kernel_rfl) (by kernel_rfl) (fun _ _ _ h => h) (Or.inl ⟨by kernel_rfl, fun u hu => by kernel_rfl⟩) hS ?_
              simp only [Act.put, List.getElem_toArray, List.getElem_cons_succ, List.getElem_cons_zero, List.setIfInBounds_toArray, List.set_cons_zero, List.set_cons_succ]
              refine wpAnyH_take (i := 10) (v := .int .i64 (L'.length : Int)) rfl (by kernel_rfl) (by kernel_rfl) (by kernel_rfl) (fun _ _ _ h => h) (Or.inl ⟨by kernel_rfl, fun u hu => by kernel_rfl⟩) hS ?_
              simp only [Act.put, List.getElem_toArray, List.getElem_cons_succ, List.getElem_cons_zero, List.setIfInBounds_toArray, List.set_cons_zero, List.set_cons_succ]
              refine wpAnyH_take (i := 11) (v := .int .i64 (L.length : Int)) rfl (by kernel_rfl) (by kernel_rfl) (by kernel_rfl) (fun _ _ _ h => h) (Or.inl ⟨by kernel_rfl, fun u hu => by kernel_rfl⟩) hS ?_
              simp only [Act.put, List.getElem_toArray, List.getElem_cons_succ, List.getElem_cons_zero, List.setIfInBounds_toArray, List.set_cons_zero, List.set_cons_succ]
              refine wpAnyH_take (i := 12) (v := .int .i64 addr) rfl (by kernel_rfl) (by kernel_rfl) (by kernel_rfl) (fun _ _ _ h => h) (Or.inl ⟨by kernel_rfl, fun u hu => by kernel_rfl⟩) hS ?_
              simp only [Act.put, List.getElem_toArray, List.getElem_cons_succ, List.getElem_cons_zero, List.setIfInBounds_toArray, List.set_cons_zero, List.set_cons_succ]
              refine wpAnyH_ready (rs := [13]) (by kernel_rfl) (by simp) ?_
              refine AllReadyH.cons rfl (fun K hK => ?_) AllReadyH.nil
              simp only [List.getElem_toArray, List.getElem_cons_succ, List.getElem_cons_zero]
              refine wp_if (by kernel_rfl) ?_
              refine wp_enter (f := 44) (args := #[.agg #[.int .i64 x.cie, .int .i64 x.beg, .int .i64 x.size, .slice fa x.ops.length fcp], .int .i64 y.enc, .int .i64 (L'.length : Int), .int .i64 (L.length : Int), .int .i64 addr]) (by kernel_rfl) HFd.out ?_
              rintro e w7 ⟨he, hb7⟩
              subst he
              refine ⟨_, rfl, ?_⟩
              have B7 : Hid _ := ⟨hb7⟩
              refine hK.out _ _ ⟨CC6.bel hb7, FC6.bel hb7⟩ (fun hS => ?_)
              clear hK
              simp only [Act.put, List.getElem_toArray, List.getElem_cons_succ, List.getElem_cons_zero, List.setIfInBounds_toArray, List.set_cons_zero, List.set_cons_succ]
              refine wpAnyH_take (i := 14) (v := .tuple #[.slice none 0 0, .int .i64 11]) rfl (by kernel_rfl) (by kernel_rfl) (by kernel_rfl) (fun _ _ _ h => h) (Or.inl ⟨by kernel_rfl, fun u hu => by kernel_rfl⟩) hS ?_
              simp only [Act.put, List.getElem_toArray, List.getElem_cons_succ, List.getElem_cons_zero, List.setIfInBounds_toArray, List.set_cons_zero, List.set_cons_succ]
              refine wpAnyH_take (i := 15) (v := .slice none 0 0) rfl (by kernel_rfl) (by kernel_rfl) (by kernel_rfl) (fun _ _ _ h => h) (Or.inl ⟨by kernel_rfl, fun u hu => by kernel_rfl⟩) hS ?_
              simp only [Act.put, List.getElem_toArray, List.getElem_cons_succ, List.getElem_cons_zero, List.setIfInBounds_toArray, List.set_cons_zero, List.set_cons_succ]
              refine wpAnyH_take (i := 16) (v := .int .i64 11) rfl (by kernel_rfl) (by kernel_rfl) (by kernel_rfl) (fun _ _ _ h => h) (Or.inl ⟨by kernel_rfl, fun u hu => by kernel_rfl⟩) hS ?_
              simp only [Act.put, List.getElem_toArray, List.getElem_cons_succ, List.getElem_cons_zero, List.setIfInBounds_toArray, List.set_cons_zero, List.set_cons_succ]
              refine wpAnyH_take (i := 17) (v := .slice none 0 0) rfl (by kernel_rfl) (by kernel_rfl) (by kernel_rfl) (fun _ _ _ h => h) (Or.inl ⟨by kernel_rfl, fun u hu => by kernel_rfl⟩) hS ?_
              simp only [Act.put, List.getElem_toArray, List.getElem_cons_succ, List.getElem_cons_zero, List.setIfInBounds_toArray, List.set_cons_zero, List.set_cons_succ]
              refine wpAnyH_take (i := 18) (v := .int .i64 11) rfl (by kernel_rfl) (by kernel_rfl) (by kernel_rfl) (fun _ _ _ h => h) (Or.inl ⟨by kernel_rfl, fun u hu => by kernel_rfl⟩) hS ?_
              simp only [Act.put, List.getElem_toArray, List.getElem_cons_succ, List.getElem_cons_zero, List.setIfInBounds_toArray, List.set_cons_zero, List.set_cons_succ]
              refine wpAnyH_done (by kernel_rfl) ?_ _
              clear hS
              go_wp2_with fail
              go_ret3
              have e : runM addr c f c.length = none := run_none (HR1.out.trans (step_no (j := j + 1) hjl (by rw [HSt.out, fdeM_none hm]))) _ (by omega)
              rw [e]
              exact WrEnd.bad (HS6.out.bel.trans (B7.out.mono HS6.out.bel.size))
            | some R =>
              rw [hm] at HFd
              have hL2 := HLw.out _ (fdeM_some hm)
              have HL2 : Hid ((L' ++ R).length ≤ L'.length + 90000) := ⟨hL2⟩
              have HLb : Hid (L'.length ≤ 3000000000000) := ⟨len_3 HLl.out.1 (Nat.le_trans hk hc4) hl2 (Nat.le_trans hj hf4)⟩
              clear hL2
              refine wp_region_held_drew (S := fun u => CeC u b (off + k * 2) y a cp ∧ FeC u fb (fo + j * 4) x fa fcp) (by kernel_rfl) ⟨CC6, FC6⟩ (fun hS => ?_)
              refine wpAnyH_take (i := 0) (v := .slice (some ⟨fb, fo, none⟩) f.length cf) rfl (by kernel_rfl) (by kernel_rfl) (by kernel_rfl) (fun _ _ _ h => h) (Or.inl ⟨by kernel_rfl, fun u hu => by kernel_rfl⟩) hS ?_
              simp only [Act.put, List.getElem_toArray, List.getElem_cons_succ, List.getElem_cons_zero, List.setIfInBounds_toArray, List.set_cons_zero, List.set_cons_succ]
              refine wpAnyH_take (i := 1) (v := .int .i64 (j : Int)) rfl (by kernel_rfl) (by kernel_rfl) (by kernel_rfl) (fun _ _ _ h => h) (Or.inl ⟨by kernel_rfl, fun u hu => by kernel_rfl⟩) hS ?_
              simp only [Act.put, List.getElem_toArray, List.getElem_cons_succ, List.getElem_cons_zero, List.setIfInBounds_toArray, List.set_cons_zero, List.set_cons_succ]
              refine wpAnyH_take (i := 2) (v := .pointer (some ⟨fb, fo + j * 4, none⟩)) rfl (by kernel_rfl) (by kernel_rfl) (by kernel_rfl) (fun _ _ _ h => h) (Or.inl ⟨by kernel_rfl, fun u hu => exec_ix rfl (by kernel_rfl) (by kernel_rfl) (ix_rfdeW fb fo f.length cf j hjl u)⟩) hS ?_
              simp only [Act.put, List.getElem_toArray, List.getElem_cons_succ, List.getElem_cons_zero, List.setIfInBounds_toArray, List.set_cons_zero, List.set_cons_succ]
              refine wpAnyH_take (i := 3) (v := .agg #[.int .i64 x.cie, .int .i64 x.beg, .int .i64 x.size, .slice fa x.ops.length fcp]) rfl (by kernel_rfl) (by kernel_rfl) (by kernel_rfl) (fun _ _ _ h => h) (Or.inl ⟨by kernel_rfl, fun u hu => exec_loadV (t := 79) (p := ⟨fb, fo + j * 4, none⟩) rfl (by kernel_rfl) (load_rfde hu.2)⟩) hS ?_
              simp only [Act.put, List.getElem_toArray, List.getElem_cons_succ, List.getElem_cons_zero, List.setIfInBounds_toArray, List.set_cons_zero, List.set_cons_succ]
              refine wpAnyH_take (i := 4) (v := .slice (some ⟨b, off, none⟩) c.length cc) rfl (by kernel_rfl) (by kernel_rfl) (by kernel_rfl) (fun _ _ _ h => h) (Or.inl ⟨by kernel_rfl, fun u hu => by kernel_rfl⟩) hS ?_
              simp only [Act.put, List.getElem_toArray, List.getElem_cons_succ, List.getElem_cons_zero, List.setIfInBounds_toArray, List.set_cons_zero, List.set_cons_succ]
              refine wpAnyH_take (i := 5) (v := .int .i64 (k : Int)) rfl (by kernel_rfl) (by kernel_rfl) (by kernel_rfl) (fun _ _ _ h => h) (Or.inl ⟨by kernel_rfl, fun u hu => by kernel_rfl⟩) hS ?_
              simp only [Act.put, List.getElem_toArray, List.getElem_cons_succ, List.getElem_cons_zero, List.setIfInBounds_toArray, List.set_cons_zero, List.set_cons_succ]
              refine wpAnyH_take (i := 6) (v := .pointer (some ⟨b, off + k * 2, none⟩)) rfl (by kernel_rfl) (by kernel_rfl) (by kernel_rfl) (fun _ _ _ h => h) (Or.inl ⟨by kernel_rfl, fun u hu => exec_ix rfl (by kernel_rfl) (by kernel_rfl) (ix_rcieW b off c.length cc k hlt u)⟩) hS ?_
              simp only [Act.put, List.getElem_toArray, List.getElem_cons_succ, List.getElem_cons_zero, List.setIfInBounds_toArray, List.set_cons_zero, List.set_cons_succ]
              refine wpAnyH_take (i := 7) (v := .pointer (some ⟨b, off + k * 2, none⟩)) rfl (by kernel_rfl) (by kernel_rfl) (by kernel_rfl) (fun _ _ _ h => h) (Or.inl ⟨by kernel_rfl, fun u hu => by kernel_rfl⟩) hS ?_
              simp only [Act.put, List.getElem_toArray, List.getElem_cons_succ, List.getElem_cons_zero, List.setIfInBounds_toArray, List.set_cons_zero, List.set_cons_succ]
              refine wpAnyH_take (i := 8) (v := .int .i64 y.enc) rfl (by kernel_rfl) (by kernel_rfl) (by kernel_rfl) (fun _ _ _ h => h) (Or.inl ⟨by kernel_rfl, fun u hu => exec_loadV (t := 3) (p := ⟨b, off + k * 2, none⟩) rfl (by kernel_rfl) (load_i64 hu.1.c0)⟩) hS ?_
              simp only [Act.put, List.getElem_toArray, List.getElem_cons_succ, List.getElem_cons_zero, List.setIfInBounds_toArray, List.set_cons_zero, List.set_cons_succ]
              refine wpAnyH_take (i := 9) (v := .slice xa L'.length xc) rfl (by kernel_rfl) (by kernel_rfl) (by kernel_rfl) (fun _ _ _ h => h) (Or.inl ⟨by kernel_rfl, fun u hu => by kernel_rfl⟩) hS ?_
              simp only [Act.put, List.getElem_toArray, List.getElem_cons_succ, List.getElem_cons_zero, List.setIfInBounds_toArray, List.set_cons_zero, List.set_cons_succ]
              refine wpAnyH_take (i := 10) (v := .int .i64 (L'.length : Int)) rfl (by kernel_rfl) (by kernel_rfl) (by kernel_rfl) (fun _ _ _ h => h) (Or.inl ⟨by kernel_rfl, fun u hu => by kernel_rfl⟩) hS ?_
              simp only [Act.put, List.getElem_toArray, List.getElem_cons_succ, List.getElem_cons_zero, List.setIfInBounds_toArray, List.set_cons_zero, List.set_cons_succ]
              refine wpAnyH_take (i := 11) (v := .int .i64 (L.length : Int)) rfl (by kernel_rfl) (by kernel_rfl) (by kernel_rfl) (fun _ _ _ h => h) (Or.inl ⟨by kernel_rfl, fun u hu => by kernel_rfl⟩) hS ?_
              simp only [Act.put, List.getElem_toArray, List.getElem_cons_succ, List.getElem_cons_zero, List.setIfInBounds_toArray, List.set_cons_zero, List.set_cons_succ]
              refine wpAnyH_take (i := 12) (v := .int .i64 addr) rfl (by kernel_rfl) (by kernel_rfl) (by kernel_rfl) (fun _ _ _ h => h) (Or.inl ⟨by kernel_rfl, fun u hu => by kernel_rfl⟩) hS ?_
              simp only [Act.put, List.getElem_toArray, List.getElem_cons_succ, List.getElem_cons_zero, List.setIfInBounds_toArray, List.set_cons_zero, List.set_cons_succ]
              refine wpAnyH_ready (rs := [13]) (by kernel_rfl) (by simp) ?_
              refine AllReadyH.cons rfl (fun K hK => ?_) AllReadyH.nil
              simp only [List.getElem_toArray, List.getElem_cons_succ, List.getElem_cons_zero]
              refine wp_if (by kernel_rfl) ?_
              refine wp_enter (f := 44) (args := #[.agg #[.int .i64 x.cie, .int .i64 x.beg, .int .i64 x.size, .slice fa x.ops.length fcp], .int .i64 y.enc, .int .i64 (L'.length : Int), .int .i64 (L.length : Int), .int .i64 addr]) (by kernel_rfl) HFd.out ?_
              rintro e w7 ⟨v7, he, ho7, hb7⟩
              subst he
              refine ⟨_, rfl, ?_⟩
              have B7 : Hid _ := ⟨hb7⟩
              have O7 : Hid _ := ⟨ho7⟩
              refine hK.out _ _ ⟨CC6.bel hb7, FC6.bel hb7⟩ (fun hS => ?_)
              clear hK
              simp only [Act.put, List.getElem_toArray, List.getElem_cons_succ, List.getElem_cons_zero, List.setIfInBounds_toArray, List.set_cons_zero, List.set_cons_succ]
              refine wpAnyH_take (i := 14) (v := .tuple #[v7, .int .i64 0]) rfl (by kernel_rfl) (by kernel_rfl) (by kernel_rfl) (fun _ _ _ h => h) (Or.inl ⟨by kernel_rfl, fun u hu => by kernel_rfl⟩) hS ?_
              simp only [Act.put, List.getElem_toArray, List.getElem_cons_succ, List.getElem_cons_zero, List.setIfInBounds_toArray, List.set_cons_zero, List.set_cons_succ]
              refine wpAnyH_take (i := 15) (v := v7) rfl (by kernel_rfl) (by kernel_rfl) (by kernel_rfl) (fun _ _ _ h => h) (Or.inl ⟨by kernel_rfl, fun u hu => by kernel_rfl⟩) hS ?_
              simp only [Act.put, List.getElem_toArray, List.getElem_cons_succ, List.getElem_cons_zero, List.setIfInBounds_toArray, List.set_cons_zero, List.set_cons_succ]
              refine wpAnyH_take (i := 16) (v := .int .i64 0) rfl (by kernel_rfl) (by kernel_rfl) (by kernel_rfl) (fun _ _ _ h => h) (Or.inl ⟨by kernel_rfl, fun u hu => by kernel_rfl⟩) hS ?_
              simp only [Act.put, List.getElem_toArray, List.getElem_cons_succ, List.getElem_cons_zero, List.setIfInBounds_toArray, List.set_cons_zero, List.set_cons_succ]
              refine wpAnyH_take (i := 17) (v := v7) rfl (by kernel_rfl) (by kernel_rfl) (by kernel_rfl) (fun _ _ _ h => h) (Or.inl ⟨by kernel_rfl, fun u hu => by kernel_rfl⟩) hS ?_
              simp only [Act.put, List.getElem_toArray, List.getElem_cons_succ, List.getElem_cons_zero, List.setIfInBounds_toArray, List.set_cons_zero, List.set_cons_succ]
              refine wpAnyH_take (i := 18) (v := .int .i64 0) rfl (by kernel_rfl) (by kernel_rfl) (by kernel_rfl) (fun _ _ _ h => h) (Or.inl ⟨by kernel_rfl, fun u hu => by kernel_rfl⟩) hS ?_
              simp only [Act.put, List.getElem_toArray, List.getElem_cons_succ, List.getElem_cons_zero, List.setIfInBounds_toArray, List.set_cons_zero, List.set_cons_succ]
              refine wpAnyH_done (by kernel_rfl) ?_ _
              clear hS
              have H7 : Hid _ := ⟨HS6.out.to B7.out⟩
              go_wp2_with (at_builtin; refine append_bk w7 rfl _ _ rfl w.heap.size (.slice xa L'.length xc) L' rfl H7.out.own v7 R rfl O7.out.bt (by have h1 := HL2.out; have h2 := HLb.out; rw [List.length_append] at h1; omega) H7.out.bel.size ?_; intro v8 w8 hA; have H8 : Hid (RS w w8 tb f.length (L' ++ R) (A'.set j (L'.length : Int)) v8) := ⟨H7.out.app hA⟩; clear hA)
              go_roundw
              case rel => exact ⟨j + 1, hjl, by go_num, ⟨L' ++ R, _, by rw [HSt.out, fdeM_some hm], H8.out, le_app hl1 _, len_next HL2.out hl2⟩⟩
              case measure => simp [intOf]; omega
        · obtain rfl : j = f.length := by omega
          obtain ⟨L', A', hg, hRS, hl1, hl2⟩ := HU.out
          have HGm : Hid _ := ⟨HR1.out.trans hg⟩
          have H6 : Hid _ := ⟨hRS⟩
          obtain ⟨xa, xc, hv, _⟩ := hRS.own.bt
          subst hv
          have HLn : Hid (L'.length ≤ (k + 1) * 361000000) := ⟨by have := HLl.out.1; omega⟩
          clear hg hRS HU
          cases bl
          · go_wp2
            go_roundw
            case rel => exact ⟨k + 1, hlt, by go_num, ⟨L', A', rfl, HGm.out, H6.out, HLn.out⟩⟩
            case measure => simp [intOf]; omega
          · have h3 : (1048576 : Int) < (L.length : Int) := of_decide_eq_true HBl.out
            have h4 : decide ((1048576 : Int) < (L'.length : Int)) = true := by simp; omega
            have H4l : Hid _ := ⟨h4⟩
            clear h3 h4
            go_wp2
            go_roundw
            case rel => exact ⟨k + 1, hlt, by go_num, ⟨L', A', by rw [H4l.out], HGm.out, H6.out, HLn.out⟩⟩
            case measure => simp [intOf]; omega
    · obtain rfl : k = c.length := by omega
      obtain ⟨L, A, hlong, hrun, hRS, hLl⟩ := HV.out
      have HRn : Hid _ := ⟨hrun⟩
      have H6 : Hid _ := ⟨hRS⟩
      have HL15 : Hid (L.length ≤ 2000000000000) := ⟨by omega⟩
      have hA4 : A.length ≤ 4000 := by rw [hRS.len]; exact hf4
      have hat := own_at (base := w.heap.size) hRS.at' hRS.lo hA4
      rw [hRS.len] at hat
      have HAt : Hid _ := ⟨hat⟩
      have hlen := hRS.len
      obtain ⟨xa, xc, hv, _⟩ := hRS.own.bt
      subst hv
      subst hlong
      clear hrun hRS HV hLl hA4 hat
      by_cases hbig : 1048576 < L.length
      · have hb1 : decide ((1048576 : Int) < (L.length : Int)) = true := by simp; omega
        rw [hb1]
        have HBig : Hid _ := ⟨hbig⟩
        clear hbig hb1
        cases en
        · go_wp2
          go_ret3
          have e : wriT false (runM addr c f c.length) = (6, [], []) := by rw [HRn.out]; exact wriT_big (by simpa [endB] using HBig.out)
          rw [e]
          exact WrEnd.bad H6.out.bel
        · go_wp2_with (at_builtin; refine append_bk _ rfl _ _ rfl w.heap.size (.slice xa L.length xc) L rfl (H6.out.own.bel ((Below.refl _ _).alloc (Nat.le_refl _) _)) _ [0, 0, 0, 0] rfl (own_lit4 wr).bt (by have := HL15.out; simp; omega) (by have := H6.out.bel.size; simp; omega) ?_; intro v8 w8 hA; have H8 : Hid (RS w w8 tb f.length (L ++ [0, 0, 0, 0]) A v8) := ⟨(H6.out.to ((Below.refl _ _).alloc (Nat.le_refl _) _)).app hA⟩; clear hA)
          go_ret3
          have e : wriT true (runM addr c f c.length) = (6, [], []) := by rw [HRn.out]; exact wriT_big (by have := HBig.out; simp [endB]; omega)
          rw [e]
          exact WrEnd.bad H8.out.bel
      · have hb1 : decide ((1048576 : Int) < (L.length : Int)) = false := by simp; omega
        rw [hb1]
        have hb2 : ¬ (1048576 : Int) < (L.length : Int) := by omega
        have HBig : Hid _ := ⟨hbig⟩
        clear hbig hb1
        cases en
        · go_wp2
          go_ret3
          have e : wriT false (runM addr c f c.length) = (0, L ++ endB false, A) := by rw [HRn.out]; exact wriT_ok (by simpa [endB] using HBig.out)
          rw [show L ++ endB false = L from List.append_nil _] at e
          rw [e]
          exact ⟨_, _, rfl, H6.out.own, HAt.out, H6.out.bel⟩
        · go_upto_region 26 with (at_builtin; refine append_bk _ rfl _ _ rfl w.heap.size (.slice xa L.length xc) L rfl (H6.out.own.bel ((Below.refl _ _).alloc (Nat.le_refl _) _)) _ [0, 0, 0, 0] rfl (own_lit4 wr).bt (by have := HL15.out; simp; omega) (by have := H6.out.bel.size; simp; omega) ?_; intro v8 w8 hA; have H8 : Hid (RS w w8 tb f.length (L ++ [0, 0, 0, 0]) A v8) := ⟨(H6.out.to ((Below.refl _ _).alloc (Nat.le_refl _) _)).app hA⟩; clear hA)
          obtain ⟨L4, hL4⟩ : ∃ L4, L ++ [0, 0, 0, 0] = L4 := ⟨_, rfl⟩
          rw [hL4] at H8
          have HL4 : Hid (L ++ endB true = L4) := ⟨hL4⟩
          clear hL4
          obtain ⟨ya, yc, hv8, _⟩ := H8.out.own.bt
          subst hv8
          have hat := own_at (base := w.heap.size) H8.out.at' H8.out.lo (by rw [H8.out.len]; exact hf4)
          rw [H8.out.len] at hat
          have HAt8 : Hid _ := ⟨hat⟩
          clear hat
          by_cases hbig : 1048576 < L4.length
          · have hb4 : (1048576 : Int) < (L4.length : Int) := by omega
            go_wp2
            go_ret3
            have e : wriT true (runM addr c f c.length) = (6, [], []) := by rw [HRn.out]; exact wriT_big (by rw [HL4.out]; exact hbig)
            rw [e]
            exact WrEnd.bad H8.out.bel
          · have hb4 : ¬ (1048576 : Int) < (L4.length : Int) := by omega
            go_wp2
            go_ret3
            have e : wriT true (runM addr c f c.length) = (0, L ++ endB true, A) := by rw [HRn.out]; exact wriT_ok (by rw [HL4.out]; exact hbig)
            rw [HL4.out] at e
            rw [e]
            exact ⟨_, _, rfl, H8.out.own, HAt8.out, H8.out.bel⟩
end Go.Proofs.YtomboebfbipaaaaDoor
