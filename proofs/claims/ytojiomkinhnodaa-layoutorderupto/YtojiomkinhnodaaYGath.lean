/- gather: sections by name. -/
import Derived.Test.YtojiomkinhnodaaYMap
namespace Go.Proofs.Ytojiomkinhnodaa
open Go.ChangeShapes Go.WideShapes Go.ChangeAt Go.RowKit Go.Maps
set_option linter.unusedVariables false
set_option linter.unusedSimpArgs false

theorem sos_take (o : Nat) (l : List Sec) (j : Nat) (hj : j < l.length) : sos o (l.take (j + 1)) = sos o (l.take j) ++ [⟨o, j, l[j]⟩] := by
  rw [List.take_succ_eq_append_getElem hj, sos_snoc]
  have : (l.take j).length = j := by simp; omega
  rw [this]
theorem socc_take (l : List Fl) (k : Nat) (hk : k < l.length) : socc (l.take (k + 1)) = socc (l.take k) ++ sos k l[k].secs := by
  rw [List.take_succ_eq_append_getElem hk, socc_snoc]
  have : (l.take k).length = k := by simp; omega
  rw [this]
theorem sos_len (o : Nat) (l : List Sec) : (sos o l).length = l.length := by simp [sos]
theorem socc_len (l : List Fl) : (socc l).length = (l.flatMap (·.secs)).length := by
  induction l using list_snoc2 with
  | h0 => rfl
  | h1 l f ih => rw [socc_snoc, List.length_append, ih, sos_len]; simp
theorem socc_app (a b : List Fl) : ∃ r, socc (a ++ b) = socc a ++ r := by
  induction b using list_snoc2 with
  | h0 => exact ⟨[], by simp⟩
  | h1 l f ih =>
    obtain ⟨r, h⟩ := ih
    exact ⟨r ++ sos (a ++ l).length f.secs, by rw [← List.append_assoc, socc_snoc, h, List.append_assoc]⟩
/-- Where the loops stand. -/
theorem socc_at (l : List Fl) (k j : Nat) (hk : k < l.length) (hj : j < l[k].secs.length) : ∃ r, socc l = (socc (l.take k) ++ sos k (l[k].secs.take j)) ++ (⟨k, j, l[k].secs[j]⟩ :: r) := by
  have e : l = l.take (k + 1) ++ l.drop (k + 1) := by rw [List.take_append_drop]
  obtain ⟨r, h⟩ := socc_app (l.take (k + 1)) (l.drop (k + 1))
  rw [← e, socc_take l k hk] at h
  have e2 : ∃ r2, sos k l[k].secs = sos k (l[k].secs.take j) ++ (⟨k, j, l[k].secs[j]⟩ :: r2) := by
    refine ⟨((l[k].secs.drop (j + 1)).zipIdx (j + 1)).map (fun p => ⟨k, p.2, p.1⟩), ?_⟩
    have e3 : l[k].secs = l[k].secs.take j ++ (l[k].secs[j] :: l[k].secs.drop (j + 1)) := by rw [List.getElem_cons_drop, List.take_append_drop]
    conv => lhs; rw [e3]
    unfold sos
    rw [List.zipIdx_append, List.map_append]
    have e4 : (l[k].secs.take j).length = j := by simp; omega
    rw [e4, List.zipIdx_cons, List.map_cons, Nat.zero_add]
  obtain ⟨r2, h2⟩ := e2
  exact ⟨r2 ++ r, by rw [h, h2]; simp⟩
theorem okG_snoc (U : List So) (x : So) (h : okG [] U = true) : okG [] (U ++ [x]) = !badX U x := by
  rw [okG_app, h]
  simp [okG]
theorem okG_bad (U : List So) (x : So) (r : List So) (h : badX U x = true) : okG [] (U ++ (x :: r)) = false := by
  rw [okG_app]
  simp [okG, h]
theorem mgo_snoc (U : List So) (x : So) : (mgo (U ++ [x]) x.s.nm).ty = ((ps (U ++ [x]) x.s.nm).headD default).s.ty ∧ (mgo (U ++ [x]) x.s.nm).fl = ((ps (U ++ [x]) x.s.nm).headD default).s.fl ∧ (mgo (U ++ [x]) x.s.nm).al = max (maxA (ps U x.s.nm)) x.s.al :=
  ⟨rfl, rfl, by show maxA (ps (U ++ [x]) x.s.nm) = _; rw [ps_snoc_same, maxA_snoc]⟩
theorem mgo_new (U : List So) (x : So) (h : ps U x.s.nm = []) : mgo (U ++ [x]) x.s.nm = ⟨x.s.nm, x.s.ty, x.s.fl, max 0 x.s.al, 0, 0⟩ := by
  unfold mgo
  rw [ps_snoc_same, h]
  rfl
theorem mgo_old (U : List So) (x : So) (h : ps U x.s.nm ≠ []) : mgo (U ++ [x]) x.s.nm = ⟨x.s.nm, (mgo U x.s.nm).ty, (mgo U x.s.nm).fl, max (mgo U x.s.nm).al x.s.al, 0, 0⟩ := by
  have e := head_pre (V := [x]) h
  unfold mgo
  rw [e]
  simp only [ps_snoc_same, maxA_snoc]
theorem badX_new (U : List So) (x : So) (h : ps U x.s.nm = []) : badX U x = mixB x.s := by
  unfold badX
  rw [ps_snoc_same, h]
  simp
theorem badX_old (U : List So) (x : So) (h : ps U x.s.nm ≠ []) : badX U x = (mixB x.s || (!(x.s.ty == (mgo U x.s.nm).ty) || !(x.s.fl == (mgo U x.s.nm).fl))) := by
  unfold badX
  rw [head_pre h]
  rfl

def GEnd (l : List Fl) (w : World) (e : Ending) (w' : World) : Prop :=
  (okG [] (socc l) = false ∧ e = .returned (.tuple #[.map none, .int .i64 182]) ∨ okG [] (socc l) = true ∧ ∃ b F, e = .returned (.tuple #[.map (some b), .int .i64 0]) ∧ MG w' w.heap.size b (socc l) F) ∧ Below w.heap.size w w'

set_option maxHeartbeats 16000000 in
set_option maxRecDepth 20000 in
theorem gather_any (ao : Option Addr) (c : Nat) (l : List Fl) (w : World) (hb : FlsB l) (hin : Fls w ao l) : Calls Try.prog 18 #[.slice ao l.length c] w fun e w' => GEnd l w e w' := by
  have HIN : Hid _ := ⟨hin⟩
  have HBD : Hid _ := ⟨hb.each⟩
  have HSUM : Hid ((socc l).length ≤ 2097152) := ⟨by rw [socc_len]; exact hb.sum.2⟩
  have HX : Hid (∀ s W, _) := ⟨isMixed_any⟩
  have hln := hb.n
  have hmm := @run_makeMap Try.prog
  clear hin hb
  obtain ⟨B, hB⟩ : ∃ B, w.heap.size = B := ⟨_, rfl⟩
  have HEND : Hid (∀ e w', GEnd l w e w' ↔ _) := ⟨fun e w' => Iff.rfl⟩
  have HG0 : Hid (MG (w.alloc (.map #[] 0)) B B [] (fun _ => none)) := ⟨by have := MG.start w (Nat.le_refl _); rwa [hB] at this⟩
  have HB0 : Hid (Below B w (w.alloc (.map #[] 0))) := ⟨by rw [← hB]; exact (Below.refl _ _).alloc (Nat.le_refl _) _⟩
  go_enter Try.func18, Try.ntmps18
  go_upto_region 1 with (fail)
  go_upto_region 2 with (fail)
  generalize w.alloc (.map #[] 0) = w0 at *
  clear hmm
  go_upto_region 3 with (fail)
  go_loopw [14] (fun i wr => ∃ k : Nat, k ≤ l.length ∧ i = .int .i64 k ∧ Hid ((∃ F, MG wr B B (socc (l.take k)) F) ∧ okG [] (socc (l.take k)) = true ∧ Below B w wr)) (fun i _ => l.length - (intOf i).toNat)
  case atStart => exact ⟨0, by omega, rfl, ⟨⟨_, HG0.out⟩, rfl, HB0.out⟩⟩
  case round =>
    obtain ⟨k, hk, rfl, HG⟩ := hrel
    have hbs := HG.out.2.2.size
    by_cases hlt : k < l.length
    · obtain ⟨b, off, rfl, hcell⟩ : ∃ b off, ao = some ⟨b, off, none⟩ ∧ ∀ i, i < l.length → FlAt wr b (off + i * 2) (l.getD i Fl.zero) := by
        rcases HIN.out.below HG.out.2.2 (by omega) with h | h
        · subst h; simp at hlt
        · exact h
      obtain ⟨c0, c1, _⟩ := hcell k hlt
      have hget : l.getD k Fl.zero = l[k] := by simp [hlt]
      rw [hget] at c0 c1
      have hfi : FlIn w l[k] := by
        rcases HIN.out with h | ⟨b', o', _, h⟩
        · subst h; simp at hlt
        · have h2 := (h k hlt).ins
          rwa [hget] at h2
      have HFB : Hid _ := ⟨HBD.out _ (List.getElem_mem hlt)⟩
      have HTK : Hid (socc (l.take (k + 1)) = socc (l.take k) ++ sos k l[k].secs) := ⟨socc_take l k hlt⟩
      have HFI : Hid _ := ⟨hfi⟩
      clear hcell hget hfi
      obtain ⟨f, hf⟩ : ∃ f, f = l[k] := ⟨_, rfl⟩
      have HAT : Hid (∀ j (hj : j < f.secs.length), ∃ r, socc l = (socc (l.take k) ++ sos k (f.secs.take j)) ++ (⟨k, j, f.secs[j]⟩ :: r)) := ⟨by subst hf; exact fun j hj => socc_at l k j hlt hj⟩
      generalize hl1 : socc (l.take (k + 1)) = U1 at HTK
      have HL1 : Hid _ := ⟨hl1⟩
      clear hl1
      rw [← hf] at c0 c1 HFB HTK HFI
      clear hf
      generalize socc (l.take k) = U0 at *
      obtain ⟨sa, sc, secs, ya, yc, syms⟩ := f
      dsimp only [Fl.val] at *
      have hns : secs.length ≤ 1048577 := HFB.out.ns
      obtain ⟨P, hP⟩ : ∃ P, wr.heap.size = P := ⟨_, rfl⟩
      have HG1 : Hid ((∃ F, MG (wr.alloc (.cells #[.slice sa secs.length sc, .slice ya syms.length yc] 41)) B B U0 F) ∧ okG [] U0 = true ∧ Below B w (wr.alloc (.cells #[.slice sa secs.length sc, .slice ya syms.length yc] 41))) := ⟨⟨HG.out.1.choose, HG.out.1.choose_spec.alloc _⟩, HG.out.2.1, HG.out.2.2.alloc (by omega) _⟩
      have s0 : (wr.alloc (.cells #[.slice sa secs.length sc, .slice ya syms.length yc] 41)).cell? ⟨P, 0, none⟩ = some (.slice sa secs.length sc) := by rw [← hP]; exact (Bk.new _ _ _).cell 0 rfl
      go_upto_region 5 with (fail)
      clear c0 c1 HG
      generalize wr.alloc (.cells #[.slice sa secs.length sc, .slice ya syms.length yc] 41) = v0 at *
      go_upto_region 6 with (fail)
      clear s0
      go_loopw [22] (fun i wr => ∃ j : Nat, j ≤ secs.length ∧ i = .int .i64 j ∧ Hid ((∃ F, MG wr B B (U0 ++ sos k (secs.take j)) F) ∧ okG [] (U0 ++ sos k (secs.take j)) = true ∧ Below B w wr)) (fun i _ => secs.length - (intOf i).toNat)
      case atStart => exact ⟨0, by omega, rfl, ⟨by simpa [sos] using HG1.out.1, by simpa [sos] using HG1.out.2.1, HG1.out.2.2⟩⟩
      case round =>
        obtain ⟨j, hj, rfl, HV⟩ := hrel
        have hbv := HV.out.2.2.size
        by_cases hlj : j < secs.length
        · obtain ⟨b2, off2, rfl, hcell⟩ : ∃ b off, sa = some ⟨b, off, none⟩ ∧ ∀ i, i < secs.length → SecAt wr b (off + i * 7) (secs.getD i Sec.zero) := by
            rcases HFI.out.se.below HV.out.2.2 (by omega) with h | h
            · dsimp only at h; subst h; simp at hlj
            · exact h
          obtain ⟨c0, c1, c2, c3, c4, c5, c6⟩ := hcell j hlj
          have hget : secs.getD j Sec.zero = secs[j] := by simp [hlj]
          rw [hget] at c0 c1 c2 c3 c4 c5 c6
          have hz := HFB.out.zs _ (List.getElem_mem hlj)
          have HSN : Hid (U0 ++ sos k (secs.take (j + 1)) = (U0 ++ sos k (secs.take j)) ++ [⟨k, j, secs[j]⟩]) := ⟨by rw [sos_take k secs j hlj, List.append_assoc]⟩
          have HAJ : Hid _ := ⟨HAT.out j hlj⟩
          have HLN : Hid ((U0 ++ sos k (secs.take j)).length < 2097152) := ⟨by
            obtain ⟨r, h⟩ := HAJ.out
            have := HSUM.out
            rw [h] at this
            simp only [List.length_append, List.length_cons] at this ⊢
            omega⟩
          have HBX : Hid (badX (U0 ++ sos k (secs.take j)) ⟨k, j, secs[j]⟩ = true → okG [] (socc l) = false) := ⟨fun h => by
            obtain ⟨r, h2⟩ := HAJ.out
            rw [h2]; exact okG_bad _ _ _ h⟩
          clear hcell hget HAJ
          obtain ⟨s, hs⟩ : ∃ s, s = secs[j] := ⟨_, rfl⟩
          rw [← hs] at c0 c1 c2 c3 c4 c5 c6 hz HSN HBX
          clear hs
          obtain ⟨U, hU⟩ : ∃ u, u = U0 ++ sos k (secs.take j) := ⟨_, rfl⟩
          rw [← hU] at HV HLN HBX HSN
          clear hU
          have HXM : Hid (∀ W, _) := ⟨fun W => HX.out s W⟩
          have HON : Hid (ps U s.nm = [] → mgo (U ++ [⟨k, j, s⟩]) s.nm = ⟨s.nm, s.ty, s.fl, max 0 s.al, 0, 0⟩ ∧ badX U ⟨k, j, s⟩ = mixB s) := ⟨fun h => ⟨mgo_new U ⟨k, j, s⟩ h, badX_new U ⟨k, j, s⟩ h⟩⟩
          have HOO : Hid (ps U s.nm ≠ [] → mgo (U ++ [⟨k, j, s⟩]) s.nm = ⟨s.nm, (mgo U s.nm).ty, (mgo U s.nm).fl, max (mgo U s.nm).al s.al, 0, 0⟩ ∧ badX U ⟨k, j, s⟩ = (mixB s || (!(s.ty == (mgo U s.nm).ty) || !(s.fl == (mgo U s.nm).fl)))) := ⟨fun h => ⟨mgo_old U ⟨k, j, s⟩ h, badX_old U ⟨k, j, s⟩ h⟩⟩
          have HOK : Hid (badX U ⟨k, j, s⟩ = false → okG [] (U ++ [⟨k, j, s⟩]) = true) := ⟨fun h => by rw [okG_snoc U _ HV.out.2.1, h]; rfl⟩
          obtain ⟨F, hF⟩ := HV.out.1
          have HF : Hid _ := ⟨hF⟩
          clear hF
          generalize mixB s = mx at *
          generalize badX U ⟨k, j, s⟩ = bx at *
          obtain ⟨nm, ty, fl, al, da, dn, dc, sz, ra, rn, rc⟩ := s
          dsimp only [Sec.val] at *
          obtain ⟨Q, hQ⟩ : ∃ Q, wr.heap.size = Q := ⟨_, rfl⟩
          have HV2 : Hid (MG (wr.alloc (.cells #[.string nm, .int .i64 ty, .int .i64 fl, .int .i64 al, .slice da dn dc, .int .i64 sz, .slice ra rn rc] 52)) B B U F ∧ Below B w (wr.alloc (.cells #[.string nm, .int .i64 ty, .int .i64 fl, .int .i64 al, .slice da dn dc, .int .i64 sz, .slice ra rn rc] 52))) := ⟨HF.out.alloc _, HV.out.2.2.alloc (by omega) _⟩
          have KQ : Bk (wr.alloc (.cells #[.string nm, .int .i64 ty, .int .i64 fl, .int .i64 al, .slice da dn dc, .int .i64 sz, .slice ra rn rc] 52)) Q 52 #[.string nm, .int .i64 ty, .int .i64 fl, .int .i64 al, .slice da dn dc, .int .i64 sz, .slice ra rn rc] := by rw [← hQ]; exact Bk.new _ _ _
          have HKQ : Hid _ := ⟨KQ⟩
          have d0 := KQ.cell 0 rfl
          clear KQ
          go_upto_region 8 with (fail)
          generalize wr.alloc (.cells #[.string nm, .int .i64 ty, .int .i64 fl, .int .i64 al, .slice da dn dc, .int .i64 sz, .slice ra rn rc] 52) = v2 at *
          clear c0 c1 c2 c3 c4 c5 c6 HV HF
          rcases HV2.out.1.getE nm with ⟨hFn, hps⟩ | ⟨pv, hFn, hps, how⟩
          · go_upto_region 9 with (at_lookup; refine wpList_lookOk rfl _ _ 61 rfl 89 Try.underlying61 (zeroM _) rfl HV2.out.1.mp rfl (by unfold maxLen; omega) ?_; rw [hFn]; dsimp only [mval, mz, Ou.zero, Option.getD, Option.isSome])
            have KM := Bk.new v2 #[.string ByteArray.empty, .int .i64 0, .int .i64 0, .int .i64 0, .int .i64 0, .int .i64 0, .slice none 0 0] 89
            have HV3 : Hid (MG (v2.alloc (.cells #[.string ByteArray.empty, .int .i64 0, .int .i64 0, .int .i64 0, .int .i64 0, .int .i64 0, .slice none 0 0] 89)) B B U F ∧ Below B w (v2.alloc (.cells #[.string ByteArray.empty, .int .i64 0, .int .i64 0, .int .i64 0, .int .i64 0, .int .i64 0, .slice none 0 0] 89))) := ⟨HV2.out.1.alloc _, HV2.out.2.alloc (by have := HV2.out.2.size; omega) _⟩
            have HKQ3 : Hid _ := ⟨HKQ.out.alloc (.cells #[.string ByteArray.empty, .int .i64 0, .int .i64 0, .int .i64 0, .int .i64 0, .int .i64 0, .slice none 0 0] 89)⟩
            obtain ⟨M, hM⟩ : ∃ M, v2.heap.size = M := ⟨_, rfl⟩
            have HBM : Hid (M ≠ B ∧ (∀ n p, F n = some p → ∀ q, p.2.ownBlock = some q → M ≠ q) ∧ B ≤ M ∧ Q ≠ M) := ⟨by have := HV2.out.1.mp.lt; omega, fun n p hp q hq => by have := ((HV2.out.1.at' n p.1 p.2 hp).2.lt q hq).2; omega, by have := HV2.out.1.lo; have := HV2.out.1.mp.lt; omega, by have := HKQ.out.lt; omega⟩
            rw [hM] at KM ⊢
            have HKM : Hid _ := ⟨KM⟩
            clear KM d0 HV2 HKQ hM
            generalize v2.alloc (.cells #[.string ByteArray.empty, .int .i64 0, .int .i64 0, .int .i64 0, .int .i64 0, .int .i64 0, .slice none 0 0] 89) = v3 at *
            have q0 := HKQ3.out.cell 0 rfl
            have q1 := HKQ3.out.cell 1 rfl
            have q2 := HKQ3.out.cell 2 rfl
            have m0 := HKM.out.cell 0 rfl
            go_upto_region 10 with (fail)
            iterate 1 go_step
            refine wpList_val (v := .pointer (some ⟨Q, 0, none⟩)) (by kernel_rfl) (by kernel_rfl) ?_
            try simp only [Act.put, List.getElem_toArray, List.getElem_cons_succ, List.getElem_cons_zero, List.setIfInBounds_toArray, List.set_cons_zero, List.set_cons_succ]
            refine wpList_val (v := .string nm) (by kernel_rfl) (exec_loadV (p := ⟨Q, 0, none⟩) rfl (by kernel_rfl) (load_str (q0))) ?_
            try simp only [Act.put, List.getElem_toArray, List.getElem_cons_succ, List.getElem_cons_zero, List.setIfInBounds_toArray, List.set_cons_zero, List.set_cons_succ]
            refine wpList_val (v := .pointer (some ⟨Q, 1, none⟩)) (by kernel_rfl) (by kernel_rfl) ?_
            try simp only [Act.put, List.getElem_toArray, List.getElem_cons_succ, List.getElem_cons_zero, List.setIfInBounds_toArray, List.set_cons_zero, List.set_cons_succ]
            refine wpList_val (v := .int .i64 ty) (by kernel_rfl) (exec_loadV (p := ⟨Q, 1, none⟩) rfl (by kernel_rfl) (load_i64 (q1))) ?_
            try simp only [Act.put, List.getElem_toArray, List.getElem_cons_succ, List.getElem_cons_zero, List.setIfInBounds_toArray, List.set_cons_zero, List.set_cons_succ]
            refine wpList_val (v := .pointer (some ⟨Q, 2, none⟩)) (by kernel_rfl) (by kernel_rfl) ?_
            try simp only [Act.put, List.getElem_toArray, List.getElem_cons_succ, List.getElem_cons_zero, List.setIfInBounds_toArray, List.set_cons_zero, List.set_cons_succ]
            refine wpList_val (v := .int .i64 fl) (by kernel_rfl) (exec_loadV (p := ⟨Q, 2, none⟩) rfl (by kernel_rfl) (load_i64 (q2))) ?_
            try simp only [Act.put, List.getElem_toArray, List.getElem_cons_succ, List.getElem_cons_zero, List.setIfInBounds_toArray, List.set_cons_zero, List.set_cons_succ]
            refine wpList_val (v := .agg #[.string nm, .int .i64 ty, .int .i64 fl, .int .i64 0, .int .i64 0, .int .i64 0]) (by kernel_rfl) (by kernel_rfl) ?_
            try simp only [Act.put, List.getElem_toArray, List.getElem_cons_succ, List.getElem_cons_zero, List.setIfInBounds_toArray, List.set_cons_zero, List.set_cons_succ]
            refine wpList_val (v := .pointer (some ⟨M, 0, none⟩)) (by kernel_rfl) (by kernel_rfl) ?_
            try simp only [Act.put, List.getElem_toArray, List.getElem_cons_succ, List.getElem_cons_zero, List.setIfInBounds_toArray, List.set_cons_zero, List.set_cons_succ]
            refine wpList_part (g := M) (off := 0) (val := .agg #[.string nm, .int .i64 ty, .int .i64 fl, .int .i64 0, .int .i64 0, .int .i64 0]) (new := #[.string nm, .int .i64 ty, .int .i64 fl, .int .i64 0, .int .i64 0, .int .i64 0, .slice none 0 0]) rfl rfl (by kernel_rfl) (by kernel_rfl) (HKM.out) (by kernel_rfl) (Nat.le_of_ble_eq_true (by kernel_rfl)) (oneAll (by kernel_rfl)) (by kernel_rfl) ?_
            try simp only [Act.put, List.getElem_toArray, List.getElem_cons_succ, List.getElem_cons_zero, List.setIfInBounds_toArray, List.set_cons_zero, List.set_cons_succ]
            refine wpList_nil ?_
            have HV4 : Hid (MG (v3.setRow M #[.string nm, .int .i64 ty, .int .i64 fl, .int .i64 0, .int .i64 0, .int .i64 0, .slice none 0 0]) B B U F ∧ Below B w (v3.setRow M #[.string nm, .int .i64 ty, .int .i64 fl, .int .i64 0, .int .i64 0, .int .i64 0, .slice none 0 0])) := ⟨HV3.out.1.setR HBM.out.1 HBM.out.2.1 _, bel_setR HV3.out.2 M HBM.out.2.2.1 _⟩
            have HKM4 : Hid _ := ⟨HKM.out.setR #[.string nm, .int .i64 ty, .int .i64 fl, .int .i64 0, .int .i64 0, .int .i64 0, .slice none 0 0]⟩
            have HKQ4 : Hid _ := ⟨HKQ3.out.setO HBM.out.2.2.2 #[.string nm, .int .i64 ty, .int .i64 fl, .int .i64 0, .int .i64 0, .int .i64 0, .slice none 0 0]⟩
            clear q0 q1 q2 m0 HV3 HKM HKQ3
            generalize v3.setRow M #[.string nm, .int .i64 ty, .int .i64 fl, .int .i64 0, .int .i64 0, .int .i64 0, .slice none 0 0] = v4 at *
            obtain ⟨em, eb⟩ := HON.out hps
            have HEM : Hid _ := ⟨em⟩
            clear em HON HOO
            subst eb
            have ty0 : (ty != ty) = false := by simp
            have fl0 : (fl != fl) = false := by simp
            have q0 := HKQ4.out.cell 0 rfl
            have q1 := HKQ4.out.cell 1 rfl
            have q2 := HKQ4.out.cell 2 rfl
            have q3 := HKQ4.out.cell 3 rfl
            have q4 := HKQ4.out.cell 4 rfl
            have q5 := HKQ4.out.cell 5 rfl
            have q6 := HKQ4.out.cell 6 rfl
            cases bx
            · go_upto_region 13 with (go_at_call 34; refine (HXM.out _).mono ?_; rintro e w5 ⟨rfl, hb5⟩; have HB5 : Hid _ := ⟨hb5⟩; have HKM5 : Hid _ := ⟨HKM4.out.bel hb5 HKM4.out.lt⟩; have HKQ5 : Hid _ := ⟨HKQ4.out.bel hb5 HKQ4.out.lt⟩; clear hb5; have p1 := HKQ5.out.cell 1 rfl; have p2 := HKQ5.out.cell 2 rfl; have p3 := HKQ5.out.cell 3 rfl; have m1 := HKM5.out.cell 1 rfl; have m2 := HKM5.out.cell 2 rfl; have m3 := HKM5.out.cell 3 rfl; have mf3 := HKM5.out.fro 3)
              go_upto_region 14 with (fail)
              have HV6 : Hid (MG (w5.setCell ⟨M, 3, none⟩ (.int .i64 (if 0 < al then al else 0))) B B U F ∧ Below B w (w5.setCell ⟨M, 3, none⟩ (.int .i64 (if 0 < al then al else 0)))) := ⟨(HV4.out.1.bel HB5.out).setC HBM.out.1 HBM.out.2.1 _ _, bel_setC (bt2 hB HV4.out.2 HB5.out) _ HBM.out.2.2.1 _⟩
              have HKM6 : Hid (Bk _ M 89 #[.string nm, .int .i64 ty, .int .i64 fl, .int .i64 (if 0 < al then al else 0), .int .i64 0, .int .i64 0, .slice none 0 0]) := ⟨HKM5.out.setC 3 (.int .i64 (if 0 < al then al else 0))⟩
              have HKQ6 : Hid _ := ⟨HKQ5.out.setCo ⟨M, 3, none⟩ (.int .i64 (if 0 < al then al else 0)) HBM.out.2.2.2⟩
              clear q0 q1 q2 q3 q4 q5 q6 p1 p2 p3 m1 m2 m3 mf3 HV4 HB5 HKM4 HKQ4 HKM5 HKQ5
              generalize w5.setCell ⟨M, 3, none⟩ (.int .i64 (if 0 < al then al else 0)) = v6 at *
              have n6 := HKM6.out.cell 6 rfl
              obtain ⟨rv, hrv, hrow⟩ := HV6.out.1.row (n := nm)
              rw [hFn] at hrv
              dsimp only [Option.getD, mz] at hrv
              subst hrv
              have HRW : Hid _ := ⟨hrow⟩
              have HAP : Hid (∀ q, Value.ownBlock (.slice none 0 0) = some q → M ≠ q) := ⟨fun q hq => by cases hq⟩
              have hlp : (ps U nm).length ≤ 2097152 := by have := HLN.out; have : (ps U nm).length ≤ U.length := List.length_filter_le _ _; omega
              clear hrow
              go_upto_region 15 with (at_builtin; refine append_R rfl _ _ 87 (.agg #[.int .i64 0, .int .i64 0]) 16 rfl Try.underlying87 infoP (by kernel_rfl) (by decide) encP_len encP_one rfl HRW.out ⟨k, j, ⟨nm, ty, fl, al, da, dn, dc, sz, ra, rn, rc⟩⟩ rfl (by simp) rfl (by unfold maxLen; omega) (by omega) (by have := HV6.out.1.mp.lt; omega) ?_; intro rv1 w7 hr7 hs7; obtain ⟨xa, xn, xc, hxv⟩ := own_sl hr7; subst hxv; have HR7 : Hid _ := ⟨hr7⟩; have HS7 : Hid _ := ⟨hs7⟩; clear hr7 hs7; have HKM7 : Hid _ := ⟨HKM6.out.turn HS7.out.turn (fun e => HAP.out _ e rfl)⟩; have n7 := HKM7.out.cell 6 rfl; have nf7 := HKM7.out.fro 6; go_frame)
              have HNM : Hid (Value.ownBlock (Value.slice xa xn xc) ≠ some M) := ⟨fun e => by
                rcases HS7.out.at' _ e with h | h
                · exact HAP.out _ h rfl
                · have := HKM6.out.lt; omega⟩
              have HKM8 : Hid (Bk _ M 89 #[.string nm, .int .i64 ty, .int .i64 fl, .int .i64 (if 0 < al then al else 0), .int .i64 0, .int .i64 0, (Value.slice xa xn xc)]) := ⟨HKM7.out.setC 6 (Value.slice xa xn xc)⟩
              have HKQ8 : Hid _ := ⟨(HKQ6.out.turn HS7.out.turn (fun e => own_ne_bk HRW.out HKQ6.out (by decide) e)).setCo ⟨M, 6, none⟩ (Value.slice xa xn xc) HBM.out.2.2.2⟩
              have HR8 : Hid (OwnR 93 2 encP (w7.setCell ⟨M, 6, none⟩ (Value.slice xa xn xc)) B (Value.slice xa xn xc) (ps U nm ++ [⟨k, j, ⟨nm, ty, fl, al, da, dn, dc, sz, ra, rn, rc⟩⟩])) := ⟨own_setC HR7.out HNM.out 6 (Value.slice xa xn xc)⟩
              have HM8 : Hid (Mp mval (w7.setCell ⟨M, 6, none⟩ (Value.slice xa xn xc)) B U.length F) := ⟨(HV6.out.1.mp.turn HS7.out.turn (fun e => own_ne_map HRW.out HV6.out.1.mp e)).setC HBM.out.1 6 (Value.slice xa xn xc)⟩
              have HT8 : Hid (Turn (fun k => Value.ownBlock (.slice none 0 0) = some k ∨ k = M) v6 (w7.setCell ⟨M, 6, none⟩ (Value.slice xa xn xc))) := ⟨(HS7.out.turn.mono (fun k _ h => .inl h)).setC (.inr rfl) 6 (Value.slice xa xn xc)⟩
              have HBL : Hid (Below B w (w7.setCell ⟨M, 6, none⟩ (Value.slice xa xn xc))) := ⟨HV6.out.2.trans (HT8.out.below (by have := HV6.out.1.mp.lt; omega) (fun q hq => hq.elim (fun h => (own_cells2 HRW.out q h).1) (fun h => by rw [h]; exact HBM.out.2.2.1)))⟩
              clear n6 n7 nf7 HKM6 HKQ6 HKM7
              generalize w7.setCell ⟨M, 6, none⟩ (Value.slice xa xn xc) = v8 at *
              have s0 := HKQ8.out.cell 0 rfl
              iterate 1 go_step
              refine wpList_val (v := .map (some B)) (by kernel_rfl) (by kernel_rfl) ?_
              try simp only [Act.put, List.getElem_toArray, List.getElem_cons_succ, List.getElem_cons_zero, List.setIfInBounds_toArray, List.set_cons_zero, List.set_cons_succ]
              refine wpList_val (v := .pointer (some ⟨Q, 0, none⟩)) (by kernel_rfl) (by kernel_rfl) ?_
              try simp only [Act.put, List.getElem_toArray, List.getElem_cons_succ, List.getElem_cons_zero, List.setIfInBounds_toArray, List.set_cons_zero, List.set_cons_succ]
              refine wpList_val (v := .string nm) (by kernel_rfl) (exec_loadV (p := ⟨Q, 0, none⟩) rfl (by kernel_rfl) (load_str (s0))) ?_
              try simp only [Act.put, List.getElem_toArray, List.getElem_cons_succ, List.getElem_cons_zero, List.setIfInBounds_toArray, List.set_cons_zero, List.set_cons_succ]
              refine wpList_load_of (p := ⟨M, 0, none⟩) (v := .agg #[.string nm, .int .i64 ty, .int .i64 fl, .int .i64 (if 0 < al then al else 0), .int .i64 0, .int .i64 0, (Value.slice xa xn xc)]) rfl (by kernel_rfl) (by kernel_rfl) ((HKM8.out).loadA 0 _ Try.underlying89 sizeMg rfl rfl) ?_
              try simp only [Act.put, List.getElem_toArray, List.getElem_cons_succ, List.getElem_cons_zero, List.setIfInBounds_toArray, List.set_cons_zero, List.set_cons_succ]
              refine wpList_putV rfl _ _ _ 61 rfl 89 Try.underlying61 rfl HM8.out (by have := HLN.out; unfold maxLen; omega) rfl (by unfold maxLen; omega) (u := (⟨nm, ty, fl, (if 0 < al then al else 0), 0, 0⟩, (Value.slice xa xn xc))) rfl ?_
              intro v9 h9 g9
              try simp only [Act.put, List.getElem_toArray, List.getElem_cons_succ, List.getElem_cons_zero, List.setIfInBounds_toArray, List.set_cons_zero, List.set_cons_succ]
              refine wpList_nil ?_
              have he : mgo (U ++ [⟨k, j, ⟨nm, ty, fl, al, da, dn, dc, sz, ra, rn, rc⟩⟩]) nm = ⟨nm, ty, fl, (if 0 < al then al else 0), 0, 0⟩ := by rw [HEM.out]; congr 1; exact max_if _ _
              have HG9 : Hid (MG v9 B B (U ++ [⟨k, j, ⟨nm, ty, fl, al, da, dn, dc, sz, ra, rn, rc⟩⟩]) _) := ⟨HV6.out.1.put ⟨k, j, ⟨nm, ty, fl, al, da, dn, dc, sz, ra, rn, rc⟩⟩ HBM.out.1 HBM.out.2.1 (by show ((F nm).getD mz).2 = .slice none 0 0; rw [hFn]; rfl) HT8.out HS7.out.at' HR8.out (by rw [he]; exact h9) g9⟩
              have HB9 : Hid (Below B w v9) := ⟨HBL.out.grown g9 (by have := HM8.out.lt; omega) (fun q hq => by injection hq; omega)⟩
              clear he h9 g9 HM8 HKM8 HKQ8 HR8 HT8 HBL s0
              go_wp2
              go_roundw
              case rel => exact ⟨j + 1, hlj, by go_num, ⟨⟨_, by rw [HSN.out]; exact HG9.out⟩, by rw [HSN.out]; exact HOK.out (by first | rfl | trivial), HB9.out⟩⟩
              case measure => simp [intOf]; omega
            · go_wp2_with (go_at_call 34; refine (HXM.out _).mono ?_; rintro e w5 ⟨rfl, hb5⟩; have HB5 : Hid _ := ⟨hb5⟩; have HKM5 : Hid _ := ⟨HKM4.out.bel hb5 HKM4.out.lt⟩; have HKQ5 : Hid _ := ⟨HKQ4.out.bel hb5 HKQ4.out.lt⟩; clear hb5; have p1 := HKQ5.out.cell 1 rfl; have p2 := HKQ5.out.cell 2 rfl; have p3 := HKQ5.out.cell 3 rfl; have m1 := HKM5.out.cell 1 rfl; have m2 := HKM5.out.cell 2 rfl; have m3 := HKM5.out.cell 3 rfl; have mf3 := HKM5.out.fro 3)
              go_ret2
              have hbx := HBX.out (by first | rfl | trivial)
              exact ⟨.inl ⟨hbx, rfl⟩, by first | exact bt2 hB HV4.out.2 HB5.out | (rw [hB]; exact bt2 hB HV4.out.2 HB5.out)⟩
          · obtain ⟨pa, pc, hpv, _, _, _, _⟩ := how.any encP_len
            subst hpv
            obtain ⟨em, eb⟩ := HOO.out hps
            have HEM : Hid _ := ⟨em⟩
            have HEB : Hid _ := ⟨eb⟩
            clear em eb HON HOO how
            have hgo : mgo U nm = ⟨nm, (mgo U nm).ty, (mgo U nm).fl, (mgo U nm).al, 0, 0⟩ := rfl
            generalize (mgo U nm).ty = mt at *
            generalize (mgo U nm).fl = mf at *
            generalize (mgo U nm).al = ma at *
            rw [hgo] at hFn
            clear hgo
            go_upto_region 9 with (at_lookup; refine wpList_lookOk rfl _ _ 61 rfl 89 Try.underlying61 (zeroM _) rfl HV2.out.1.mp rfl (by unfold maxLen; omega) ?_; rw [hFn]; dsimp only [mval, mz, Ou.zero, Option.getD, Option.isSome])
            have KM := Bk.new v2 #[.string nm, .int .i64 mt, .int .i64 mf, .int .i64 ma, .int .i64 0, .int .i64 0, .slice pa (ps U nm).length pc] 89
            have HV3 : Hid (MG (v2.alloc (.cells #[.string nm, .int .i64 mt, .int .i64 mf, .int .i64 ma, .int .i64 0, .int .i64 0, .slice pa (ps U nm).length pc] 89)) B B U F ∧ Below B w (v2.alloc (.cells #[.string nm, .int .i64 mt, .int .i64 mf, .int .i64 ma, .int .i64 0, .int .i64 0, .slice pa (ps U nm).length pc] 89))) := ⟨HV2.out.1.alloc _, HV2.out.2.alloc (by have := HV2.out.2.size; omega) _⟩
            have HKQ3 : Hid _ := ⟨HKQ.out.alloc (.cells #[.string nm, .int .i64 mt, .int .i64 mf, .int .i64 ma, .int .i64 0, .int .i64 0, .slice pa (ps U nm).length pc] 89)⟩
            obtain ⟨M, hM⟩ : ∃ M, v2.heap.size = M := ⟨_, rfl⟩
            have HBM : Hid (M ≠ B ∧ (∀ n p, F n = some p → ∀ q, p.2.ownBlock = some q → M ≠ q) ∧ B ≤ M ∧ Q ≠ M) := ⟨by have := HV2.out.1.mp.lt; omega, fun n p hp q hq => by have := ((HV2.out.1.at' n p.1 p.2 hp).2.lt q hq).2; omega, by have := HV2.out.1.lo; have := HV2.out.1.mp.lt; omega, by have := HKQ.out.lt; omega⟩
            rw [hM] at KM ⊢
            have HKM : Hid _ := ⟨KM⟩
            clear KM d0 HV2 HKQ hM
            generalize v2.alloc (.cells #[.string nm, .int .i64 mt, .int .i64 mf, .int .i64 ma, .int .i64 0, .int .i64 0, .slice pa (ps U nm).length pc] 89) = v3 at *
            have HV4 : Hid _ := ⟨HV3.out⟩
            have HKM4 : Hid _ := ⟨HKM.out⟩
            have HKQ4 : Hid _ := ⟨HKQ3.out⟩
            clear HV3 HKM HKQ3
            obtain ⟨v4, hv4⟩ : ∃ v, v = v3 := ⟨_, rfl⟩
            rw [← hv4] at HV4 HKM4 HKQ4 ⊢
            clear hv4
            obtain ⟨ty1, ht1⟩ : ∃ b, (ty == mt) = b := ⟨_, rfl⟩
            obtain ⟨fl1, hf1⟩ : ∃ b, (fl == mf) = b := ⟨_, rfl⟩
            have ty0 : (ty != mt) = !ty1 := by rw [bne, ht1]
            have fl0 : (fl != mf) = !fl1 := by rw [bne, hf1]
            rw [ht1, hf1] at HEB
            have q0 := HKQ4.out.cell 0 rfl
            have q1 := HKQ4.out.cell 1 rfl
            have q2 := HKQ4.out.cell 2 rfl
            have q3 := HKQ4.out.cell 3 rfl
            have q4 := HKQ4.out.cell 4 rfl
            have q5 := HKQ4.out.cell 5 rfl
            have q6 := HKQ4.out.cell 6 rfl
            cases mx
            · cases ty1
              · go_wp2_with (go_at_call 34; refine (HXM.out _).mono ?_; rintro e w5 ⟨rfl, hb5⟩; have HB5 : Hid _ := ⟨hb5⟩; have HKM5 : Hid _ := ⟨HKM4.out.bel hb5 HKM4.out.lt⟩; have HKQ5 : Hid _ := ⟨HKQ4.out.bel hb5 HKQ4.out.lt⟩; clear hb5; have p1 := HKQ5.out.cell 1 rfl; have p2 := HKQ5.out.cell 2 rfl; have p3 := HKQ5.out.cell 3 rfl; have m1 := HKM5.out.cell 1 rfl; have m2 := HKM5.out.cell 2 rfl; have m3 := HKM5.out.cell 3 rfl; have mf3 := HKM5.out.fro 3)
                go_ret2
                have hbx := HBX.out (by rw [HEB.out]; rfl)
                exact ⟨.inl ⟨hbx, rfl⟩, by first | exact bt2 hB HV4.out.2 HB5.out | (rw [hB]; exact bt2 hB HV4.out.2 HB5.out)⟩
              · cases fl1
                · go_wp2_with (go_at_call 34; refine (HXM.out _).mono ?_; rintro e w5 ⟨rfl, hb5⟩; have HB5 : Hid _ := ⟨hb5⟩; have HKM5 : Hid _ := ⟨HKM4.out.bel hb5 HKM4.out.lt⟩; have HKQ5 : Hid _ := ⟨HKQ4.out.bel hb5 HKQ4.out.lt⟩; clear hb5; have p1 := HKQ5.out.cell 1 rfl; have p2 := HKQ5.out.cell 2 rfl; have p3 := HKQ5.out.cell 3 rfl; have m1 := HKM5.out.cell 1 rfl; have m2 := HKM5.out.cell 2 rfl; have m3 := HKM5.out.cell 3 rfl; have mf3 := HKM5.out.fro 3)
                  go_ret2
                  have hbx := HBX.out (by rw [HEB.out]; rfl)
                  exact ⟨.inl ⟨hbx, rfl⟩, by first | exact bt2 hB HV4.out.2 HB5.out | (rw [hB]; exact bt2 hB HV4.out.2 HB5.out)⟩
                · go_upto_region 13 with (go_at_call 34; refine (HXM.out _).mono ?_; rintro e w5 ⟨rfl, hb5⟩; have HB5 : Hid _ := ⟨hb5⟩; have HKM5 : Hid _ := ⟨HKM4.out.bel hb5 HKM4.out.lt⟩; have HKQ5 : Hid _ := ⟨HKQ4.out.bel hb5 HKQ4.out.lt⟩; clear hb5; have p1 := HKQ5.out.cell 1 rfl; have p2 := HKQ5.out.cell 2 rfl; have p3 := HKQ5.out.cell 3 rfl; have m1 := HKM5.out.cell 1 rfl; have m2 := HKM5.out.cell 2 rfl; have m3 := HKM5.out.cell 3 rfl; have mf3 := HKM5.out.fro 3)
                  go_upto_region 14 with (fail)
                  have HV6 : Hid (MG (w5.setCell ⟨M, 3, none⟩ (.int .i64 (if ma < al then al else ma))) B B U F ∧ Below B w (w5.setCell ⟨M, 3, none⟩ (.int .i64 (if ma < al then al else ma)))) := ⟨(HV4.out.1.bel HB5.out).setC HBM.out.1 HBM.out.2.1 _ _, bel_setC (bt2 hB HV4.out.2 HB5.out) _ HBM.out.2.2.1 _⟩
                  have HKM6 : Hid (Bk _ M 89 #[.string nm, .int .i64 mt, .int .i64 mf, .int .i64 (if ma < al then al else ma), .int .i64 0, .int .i64 0, .slice pa (ps U nm).length pc]) := ⟨HKM5.out.setC 3 (.int .i64 (if ma < al then al else ma))⟩
                  have HKQ6 : Hid _ := ⟨HKQ5.out.setCo ⟨M, 3, none⟩ (.int .i64 (if ma < al then al else ma)) HBM.out.2.2.2⟩
                  clear q0 q1 q2 q3 q4 q5 q6 p1 p2 p3 m1 m2 m3 mf3 HV4 HB5 HKM4 HKQ4 HKM5 HKQ5
                  generalize w5.setCell ⟨M, 3, none⟩ (.int .i64 (if ma < al then al else ma)) = v6 at *
                  have n6 := HKM6.out.cell 6 rfl
                  obtain ⟨rv, hrv, hrow⟩ := HV6.out.1.row (n := nm)
                  rw [hFn] at hrv
                  dsimp only [Option.getD, mz] at hrv
                  subst hrv
                  have HRW : Hid _ := ⟨hrow⟩
                  have HAP : Hid (∀ q, Value.ownBlock (.slice pa (ps U nm).length pc) = some q → M ≠ q) := ⟨fun q hq => HBM.out.2.1 nm _ hFn q hq⟩
                  have hlp : (ps U nm).length ≤ 2097152 := by have := HLN.out; have : (ps U nm).length ≤ U.length := List.length_filter_le _ _; omega
                  clear hrow
                  go_upto_region 15 with (at_builtin; refine append_R rfl _ _ 87 (.agg #[.int .i64 0, .int .i64 0]) 16 rfl Try.underlying87 infoP (by kernel_rfl) (by decide) encP_len encP_one rfl HRW.out ⟨k, j, ⟨nm, ty, fl, al, da, dn, dc, sz, ra, rn, rc⟩⟩ rfl (by simp) rfl (by unfold maxLen; omega) (by omega) (by have := HV6.out.1.mp.lt; omega) ?_; intro rv1 w7 hr7 hs7; obtain ⟨xa, xn, xc, hxv⟩ := own_sl hr7; subst hxv; have HR7 : Hid _ := ⟨hr7⟩; have HS7 : Hid _ := ⟨hs7⟩; clear hr7 hs7; have HKM7 : Hid _ := ⟨HKM6.out.turn HS7.out.turn (fun e => HAP.out _ e rfl)⟩; have n7 := HKM7.out.cell 6 rfl; have nf7 := HKM7.out.fro 6; go_frame)
                  have HNM : Hid (Value.ownBlock (Value.slice xa xn xc) ≠ some M) := ⟨fun e => by
                    rcases HS7.out.at' _ e with h | h
                    · exact HAP.out _ h rfl
                    · have := HKM6.out.lt; omega⟩
                  have HKM8 : Hid (Bk _ M 89 #[.string nm, .int .i64 mt, .int .i64 mf, .int .i64 (if ma < al then al else ma), .int .i64 0, .int .i64 0, (Value.slice xa xn xc)]) := ⟨HKM7.out.setC 6 (Value.slice xa xn xc)⟩
                  have HKQ8 : Hid _ := ⟨(HKQ6.out.turn HS7.out.turn (fun e => own_ne_bk HRW.out HKQ6.out (by decide) e)).setCo ⟨M, 6, none⟩ (Value.slice xa xn xc) HBM.out.2.2.2⟩
                  have HR8 : Hid (OwnR 93 2 encP (w7.setCell ⟨M, 6, none⟩ (Value.slice xa xn xc)) B (Value.slice xa xn xc) (ps U nm ++ [⟨k, j, ⟨nm, ty, fl, al, da, dn, dc, sz, ra, rn, rc⟩⟩])) := ⟨own_setC HR7.out HNM.out 6 (Value.slice xa xn xc)⟩
                  have HM8 : Hid (Mp mval (w7.setCell ⟨M, 6, none⟩ (Value.slice xa xn xc)) B U.length F) := ⟨(HV6.out.1.mp.turn HS7.out.turn (fun e => own_ne_map HRW.out HV6.out.1.mp e)).setC HBM.out.1 6 (Value.slice xa xn xc)⟩
                  have HT8 : Hid (Turn (fun k => Value.ownBlock (.slice pa (ps U nm).length pc) = some k ∨ k = M) v6 (w7.setCell ⟨M, 6, none⟩ (Value.slice xa xn xc))) := ⟨(HS7.out.turn.mono (fun k _ h => .inl h)).setC (.inr rfl) 6 (Value.slice xa xn xc)⟩
                  have HBL : Hid (Below B w (w7.setCell ⟨M, 6, none⟩ (Value.slice xa xn xc))) := ⟨HV6.out.2.trans (HT8.out.below (by have := HV6.out.1.mp.lt; omega) (fun q hq => hq.elim (fun h => (own_cells2 HRW.out q h).1) (fun h => by rw [h]; exact HBM.out.2.2.1)))⟩
                  clear n6 n7 nf7 HKM6 HKQ6 HKM7
                  generalize w7.setCell ⟨M, 6, none⟩ (Value.slice xa xn xc) = v8 at *
                  have s0 := HKQ8.out.cell 0 rfl
                  iterate 1 go_step
                  refine wpList_val (v := .map (some B)) (by kernel_rfl) (by kernel_rfl) ?_
                  try simp only [Act.put, List.getElem_toArray, List.getElem_cons_succ, List.getElem_cons_zero, List.setIfInBounds_toArray, List.set_cons_zero, List.set_cons_succ]
                  refine wpList_val (v := .pointer (some ⟨Q, 0, none⟩)) (by kernel_rfl) (by kernel_rfl) ?_
                  try simp only [Act.put, List.getElem_toArray, List.getElem_cons_succ, List.getElem_cons_zero, List.setIfInBounds_toArray, List.set_cons_zero, List.set_cons_succ]
                  refine wpList_val (v := .string nm) (by kernel_rfl) (exec_loadV (p := ⟨Q, 0, none⟩) rfl (by kernel_rfl) (load_str (s0))) ?_
                  try simp only [Act.put, List.getElem_toArray, List.getElem_cons_succ, List.getElem_cons_zero, List.setIfInBounds_toArray, List.set_cons_zero, List.set_cons_succ]
                  refine wpList_load_of (p := ⟨M, 0, none⟩) (v := .agg #[.string nm, .int .i64 mt, .int .i64 mf, .int .i64 (if ma < al then al else ma), .int .i64 0, .int .i64 0, (Value.slice xa xn xc)]) rfl (by kernel_rfl) (by kernel_rfl) ((HKM8.out).loadA 0 _ Try.underlying89 sizeMg rfl rfl) ?_
                  try simp only [Act.put, List.getElem_toArray, List.getElem_cons_succ, List.getElem_cons_zero, List.setIfInBounds_toArray, List.set_cons_zero, List.set_cons_succ]
                  refine wpList_putV rfl _ _ _ 61 rfl 89 Try.underlying61 rfl HM8.out (by have := HLN.out; unfold maxLen; omega) rfl (by unfold maxLen; omega) (u := (⟨nm, mt, mf, (if ma < al then al else ma), 0, 0⟩, (Value.slice xa xn xc))) rfl ?_
                  intro v9 h9 g9
                  try simp only [Act.put, List.getElem_toArray, List.getElem_cons_succ, List.getElem_cons_zero, List.setIfInBounds_toArray, List.set_cons_zero, List.set_cons_succ]
                  refine wpList_nil ?_
                  have he : mgo (U ++ [⟨k, j, ⟨nm, ty, fl, al, da, dn, dc, sz, ra, rn, rc⟩⟩]) nm = ⟨nm, mt, mf, (if ma < al then al else ma), 0, 0⟩ := by rw [HEM.out]; congr 1; exact max_if _ _
                  have HG9 : Hid (MG v9 B B (U ++ [⟨k, j, ⟨nm, ty, fl, al, da, dn, dc, sz, ra, rn, rc⟩⟩]) _) := ⟨HV6.out.1.put ⟨k, j, ⟨nm, ty, fl, al, da, dn, dc, sz, ra, rn, rc⟩⟩ HBM.out.1 HBM.out.2.1 (by show ((F nm).getD mz).2 = .slice pa (ps U nm).length pc; rw [hFn]; rfl) HT8.out HS7.out.at' HR8.out (by rw [he]; exact h9) g9⟩
                  have HB9 : Hid (Below B w v9) := ⟨HBL.out.grown g9 (by have := HM8.out.lt; omega) (fun q hq => by injection hq; omega)⟩
                  clear he h9 g9 HM8 HKM8 HKQ8 HR8 HT8 HBL s0
                  go_wp2
                  go_roundw
                  case rel => exact ⟨j + 1, hlj, by go_num, ⟨⟨_, by rw [HSN.out]; exact HG9.out⟩, by rw [HSN.out]; exact HOK.out (by rw [HEB.out]; rfl), HB9.out⟩⟩
                  case measure => simp [intOf]; omega
            · go_wp2_with (go_at_call 34; refine (HXM.out _).mono ?_; rintro e w5 ⟨rfl, hb5⟩; have HB5 : Hid _ := ⟨hb5⟩; have HKM5 : Hid _ := ⟨HKM4.out.bel hb5 HKM4.out.lt⟩; have HKQ5 : Hid _ := ⟨HKQ4.out.bel hb5 HKQ4.out.lt⟩; clear hb5; have p1 := HKQ5.out.cell 1 rfl; have p2 := HKQ5.out.cell 2 rfl; have p3 := HKQ5.out.cell 3 rfl; have m1 := HKM5.out.cell 1 rfl; have m2 := HKM5.out.cell 2 rfl; have m3 := HKM5.out.cell 3 rfl; have mf3 := HKM5.out.fro 3)
              go_ret2
              have hbx := HBX.out (by rw [HEB.out]; rfl)
              exact ⟨.inl ⟨hbx, rfl⟩, by first | exact bt2 hB HV4.out.2 HB5.out | (rw [hB]; exact bt2 hB HV4.out.2 HB5.out)⟩
        · obtain rfl : j = secs.length := by omega
          rw [List.take_of_length_le (Nat.le_refl _), ← HTK.out] at HV
          have HGE : Hid _ := ⟨HV.out⟩
          clear HV
          go_wp2
          go_roundw
          case rel => exact ⟨k + 1, hlt, by go_num, ⟨by rw [HL1.out]; exact HGE.out⟩⟩
          case measure => simp [intOf]; omega
    · obtain rfl : k = l.length := by omega
      rw [List.take_of_length_le (Nat.le_refl _)] at HG
      obtain ⟨F, hF⟩ := HG.out.1
      have HGF : Hid _ := ⟨hF⟩
      clear hF
      go_wp2
      go_ret2
      exact ⟨.inr ⟨HG.out.2.1, B, F, rfl, by first | exact HGF.out | (rw [hB]; exact HGF.out)⟩, by first | exact HG.out.2.2 | (rw [hB]; exact HG.out.2.2)⟩
end Go.Proofs.Ytojiomkinhnodaa
