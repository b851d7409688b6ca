/- lay: name by name. -/
import Derived.Test.YtojiomkinhnodaaYPut
namespace Go.Proofs.Ytojiomkinhnodaa
open Go.ChangeShapes Go.WideShapes Go.ChangeAt Go.RowKit Go.Maps
set_option linter.unusedVariables false
set_option linter.unusedSimpArgs false

/-- What is laid behind the groups up to g. -/
def restG (U : List So) (g : Nat) : List So := (List.range' g (9 - g)).flatMap (gn U)
theorem restG_one (U : List So) : restG U 1 = ord U := rfl
theorem restG_nine (U : List So) : restG U 9 = [] := rfl
theorem restG_step (U : List So) (g : Nat) (hg : g < 9) : restG U g = gn U g ++ restG U (g + 1) := by
  unfold restG
  rw [show 9 - g = (9 - (g + 1)) + 1 by omega, List.range'_succ, List.flatMap_cons]
theorem lay1_eq (U : List So) (st : St) (x : So) (e0 : Int) (he : (if min (grpX x) 3 = st.pg then st.en else upA st.en 4096) = e0) : lay1 U st x = ⟨min (grpX x) 3, (putR U x.s.nm e0 st.at').1, st.outs ++ [putO U x.s.nm e0 st.at'], (putR U x.s.nm e0 st.at').2⟩ := by
  unfold lay1 putR putO
  simp only [he]
  rfl
theorem layL_go (U : List So) (x : So) (L : List So) (st : St) : layL U (x :: L) st = if 16777216 < (lay1 U st x).en then none else layL U L (lay1 U st x) := rfl
theorem gn_mem {U : List So} {g : Nat} {x : So} (h : x ∈ gn U g) : x ∈ fsts U ∧ grpX x = g := by
  unfold gn at h
  rw [List.mem_filter] at h
  exact ⟨h.1, by simpa using h.2⟩
/-- What stands while it is laid. -/
structure LS (w w1 wr : World) (B : Nat) (k : Wk) (U : List So) (R : List So) (st : St) : Prop where
  pw : ∃ oa on oc, PW w wr B { k with oa := oa, on' := on, oc := oc } U st.en st.at' st.outs
  tw : Tw w1 wr
  eq : layL U (ord U) st0 = layL U R st
  n : st.outs.length + R.length ≤ 2097152
  e0 : 0 ≤ st.en
  e1 : st.en ≤ 16777216
def LEnd (w : World) (B : Nat) (k : Wk) (U : List So) (e : Ending) (w' : World) : Prop :=
  (layL U (ord U) st0 = none ∧ e = .returned (.int .i64 6) ∧ Below B w w') ∨ ∃ st, layL U (ord U) st0 = some st ∧ e = .returned (.int .i64 0) ∧ ∃ oa on oc, PW w w' B { k with oa := oa, on' := on, oc := oc } U st.en st.at' st.outs

set_option maxHeartbeats 16000000 in
set_option maxRecDepth 20000 in
theorem lay_any {w w0 : World} {B base : Nat} {k : Wk} {l : List Fl} {U : List So} (hB : w.heap.size = B) (hI : WIn w k l U) (h : PW w w0 B k U 4096 (fun _ _ => -1) []) (vs : List Value) (hvl : vs.length = 9) (hrows : ∀ g, g < 9 → OwnS w0 base (vs.getD g (.slice none 0 0)) ((gn U g).map (·.s.nm))) :
    Calls Try.prog 20 #[.pointer (some ⟨k.p, 0, none⟩), .agg vs.toArray] w0 fun e w' => LEnd w B k U e w' := by
  obtain ⟨w1, hw1⟩ : ∃ w1, w0.alloc (.cells vs.toArray 68) = w1 := ⟨_, rfl⟩
  obtain ⟨L, hL⟩ : ∃ L, w0.heap.size = L := ⟨_, rfl⟩
  have HLK : Hid (Bk w1 L 68 vs.toArray) := ⟨by rw [← hw1, ← hL]; exact Bk.new _ _ _⟩
  have HRW : Hid (∀ g, g < 9 → OwnS w1 base (vs.getD g (.slice none 0 0)) ((gn U g).map (·.s.nm))) := ⟨fun g hg => by rw [← hw1]; exact World.ownsRow.alloc (hrows g hg) _⟩
  have HP1 : Hid (PW w w1 B k U 4096 (fun _ _ => -1) []) := ⟨by rw [← hw1]; exact h.alloc hB _⟩
  have HI : Hid _ := ⟨hI⟩
  have HVL : Hid _ := ⟨hvl⟩
  have hord : (ord U).length ≤ 2097152 := by
    have h1 : (ord U).length ≤ (fsts U).length := by
      have h2 : ((ord U).map (·.s.nm)).length ≤ ((fsts U).map (·.s.nm)).length := by
        have := (ord_nd U)
        exact List.Nodup.length_le_of_subset this (fun a ha => by
          obtain ⟨x, hx, rfl⟩ := List.mem_map.1 ha
          exact List.mem_map.2 ⟨x, (mem_ord.1 hx).1, rfl⟩)
      simpa using h2
    have := (fsts_sub U).length_le
    have := hI.len
    omega
  have HLS : Hid (LS w w1 w1 B k U (restG U 1) st0) := ⟨⟨⟨k.oa, k.on', k.oc, HP1.out⟩, Tw.refl _, rfl, by simpa [st0, restG_one] using hord, by decide, by decide⟩⟩
  clear h hI hrows HP1 hord
  go_enter Try.func20, Try.ntmps20
  go_wp2
  go_step3
  go_wp2
  go_step3
  go_upto_region 4 with (fail)
  go_loopw [5, 6, 7] (fun v5 v6 v7 wr => ∃ g : Nat, ∃ st : St, (1 ≤ g ∧ g ≤ 9) ∧ v5 = .int .i64 (st.pg : Int) ∧ v6 = .int .i64 0 ∧ v7 = .int .i64 (g : Int) ∧ Hid (LS w w1 wr B k U (restG U g) st)) (fun _ _ v7 _ => 9 - (intOf v7).toNat)
  case atStart => exact ⟨1, st0, ⟨by omega, by omega⟩, rfl, rfl, rfl, HLS⟩
  case round =>
    obtain ⟨g, st, ⟨hg1, hg9⟩, rfl, rfl, rfl, HW⟩ := hrel
    by_cases hlt : g < 9
    · obtain ⟨va, vn, vc, hvg⟩ := own_sl (HRW.out g hlt)
      have hvl2 : g < vs.length := by rw [HVL.out]; exact hlt
      have HRR : Hid (OwnS wr base (.slice va vn vc) ((gn U g).map (·.s.nm))) := ⟨by rw [← hvg]; exact HW.out.tw.row (HRW.out g hlt) (by decide)⟩
      have HLW : Hid (Bk wr L 68 vs.toArray) := ⟨HW.out.tw.bk HLK.out (by decide)⟩
      have hva : vs.toArray[g]? = some (.slice va vn vc) := by rw [← hvg]; simp [hvl2]
      have n6 : wr.cell? ⟨L, g, none⟩ = some (.slice va vn vc) := HLW.out.cell g hva
      have hix := ix_9 L g hlt
      obtain ⟨va2, vc2, hv2, _⟩ := HRR.out.any
      injection hv2 with e1 e2 e3
      simp only [List.length_map] at e2
      subst e1 e2 e3
      have HS0 : Hid (LS w w1 wr B k U (gn U g ++ restG U (g + 1)) st) := ⟨by rw [← restG_step U g hlt]; exact HW.out⟩
      have hgl : (gn U g).length ≤ 2097152 := by have := HS0.out.n; simp at this; omega
      have HVG : Hid (vs.getD g (.slice none 0 0) = .slice va (gn U g).length vc) := ⟨hvg⟩
      clear hvg hva HRR HLW HW hvl2
      go_upto_region 7 with (fail)
      clear n6 hix
      go_loopw [5, 6, 18] (fun v5 v6 v18 wr => ∃ t : Nat, ∃ st : St, t ≤ (gn U g).length ∧ v5 = .int .i64 (st.pg : Int) ∧ v6 = .int .i64 0 ∧ v18 = .int .i64 (t : Int) ∧ Hid (LS w w1 wr B k U ((gn U g).drop t ++ restG U (g + 1)) st)) (fun _ _ v18 _ => (gn U g).length - (intOf v18).toNat)
      case atStart => exact ⟨0, st, by omega, rfl, rfl, rfl, HS0⟩
      case round =>
        obtain ⟨t, s2, ht, rfl, rfl, rfl, HV⟩ := hrel
        by_cases hlt2 : t < (gn U g).length
        · have hrow : OwnS wr base (.slice va (gn U g).length vc) ((gn U g).map (·.s.nm)) := by rw [← HVG.out]; exact HV.out.tw.row (HRW.out g hlt) (by decide)
          obtain ⟨va4, vc4, hv4, _, _, hst, _⟩ := hrow.any
          injection hv4 with e1 e2 e3
          clear e2
          subst e1 e3
          obtain ⟨b3, off3, rfl, hstr⟩ : ∃ b off, va = some ⟨b, off, none⟩ ∧ ∀ i, i < ((gn U g).map (·.s.nm)).length → wr.cell? ⟨b, off + i, none⟩ = some (.string (((gn U g).map (·.s.nm)).getD i ByteArray.empty)) := by
            rcases hst with h | h
            · have := congrArg List.length h; simp at this; rw [this] at hlt2; simp at hlt2
            · exact h
          have c0 := hstr t (by simpa using hlt2)
          have hgd : ((gn U g).map (·.s.nm)).getD t ByteArray.empty = (gn U g)[t].s.nm := by simp [hlt2]
          rw [hgd] at c0
          obtain ⟨hxf, hxg⟩ := gn_mem (List.getElem_mem hlt2)
          have hps : ps U (gn U g)[t].s.nm ≠ [] := mem_names.1 (List.mem_map.2 ⟨_, hxf, rfl⟩)
          have HDR : Hid ((gn U g).drop t = (gn U g)[t] :: (gn U g).drop (t + 1)) := ⟨by rw [List.getElem_cons_drop]⟩
          have HGX : Hid _ := ⟨hxg⟩
          clear hstr hst hgd hrow hxg hxf
          obtain ⟨x, hx⟩ : ∃ x, x = (gn U g)[t] := ⟨_, rfl⟩
          rw [← hx] at c0 hps HDR HGX
          clear hx
          obtain ⟨nm, hnm⟩ : ∃ nm, x.s.nm = nm := ⟨_, rfl⟩
          rw [hnm] at c0 hps
          have HNM : Hid _ := ⟨hnm⟩
          clear hnm
          obtain ⟨oa, on, oc, hpw⟩ := HV.out.pw
          have HPW : Hid (PW w wr B { k with oa := oa, on' := on, oc := oc } U s2.en s2.at' s2.outs) := ⟨hpw⟩
          clear hpw
          have HI2 : Hid (WIn w { k with oa := oa, on' := on, oc := oc } l U) := ⟨⟨HI.out.fls, HI.out.n, HI.out.hn, HI.out.ns, HI.out.u, HI.out.ok, HI.out.ub, HI.out.len⟩⟩
          have hol : s2.outs.length ≤ 2097152 := by have := HV.out.n; omega
          have hen0 := HV.out.e0
          have hen1 := HV.out.e1
          have HPT : Hid (∀ W (e0 : Int), 0 ≤ e0 → e0 ≤ 1073741824 → PW w W B { k with oa := oa, on' := on, oc := oc } U e0 s2.at' s2.outs → Calls Try.prog 37 #[.pointer (some ⟨k.p, 0, none⟩), .string nm] W fun e w' => PutEnd w W B { k with oa := oa, on' := on, oc := oc } U e0 s2.at' s2.outs nm e w') := ⟨fun W e0 h0 h1 hp => put_any hB HI2.out hp h0 h1 hol nm hps⟩
          have HPOS0 : Hid (∀ e0 : Int, 0 ≤ e0 → 0 ≤ (putR U nm e0 s2.at').1) := ⟨fun e0 h0 => by
            obtain ⟨j, hj, hal⟩ := maxA_pow (ps U nm) hps (fun y hy => HI.out.ok.al y (ps_mem.1 hy).1)
            have h1 := upA_all e0 (mgo U nm).al (by show 1 ≤ maxA _; rw [hal]; exact pow_pos2 j)
            have h2 := (put_fold (ps U nm) (upA e0 (mgo U nm).al) s2.at' (fun x hx => ⟨HI.out.ok.al1 (ps_mem.1 hx).1, (HI.out.ok.sz x (ps_mem.1 hx).1).1⟩) (HI.out.ok.up.sublist List.filter_sublist)).1
            unfold putR
            omega⟩
          have HPG : Hid (∀ W, _) := ⟨fun W => pagesOf_any g (by omega) W⟩
          clear hps
          obtain ⟨mg, hmg⟩ : ∃ mg, min g 3 = mg := ⟨_, rfl⟩
          rw [hmg] at HPG
          have HMG : Hid _ := ⟨hmg⟩
          clear hmg
          by_cases hp : mg = s2.pg
          · have hq : (((s2.pg : Nat) : Int) != ((mg : Nat) : Int)) = false := by rw [hp]; simp
            have HHP : Hid _ := ⟨hp⟩
            clear hp
            have HPP : Hid _ := ⟨HPW.out⟩
            have HTP : Hid (Tw w1 wr) := ⟨HV.out.tw⟩
            have HPO : Hid (0 ≤ (putR U nm s2.en s2.at').1) := ⟨HPOS0.out _ hen0⟩
            go_upto_region 13 with (first
              | (go_at_call 35; refine (HPG.out _).mono ?_; rintro e w' ⟨rfl, hw'⟩; subst w')
              | (go_at_call 37; (with_reducible refine (HPT.out _ _ hen0 (by omega) HPP.out).mono ?_); rintro e w2 ⟨rfl, oa2, on2, oc2, hp2, ht2⟩; have HP2 : Hid (PW w w2 B { k with oa := oa2, on' := on2, oc := oc2 } U (putR U nm s2.en s2.at').1 (putR U nm s2.en s2.at').2 (s2.outs ++ [putO U nm s2.en s2.at'])) := ⟨hp2⟩; have HT2 : Hid (Tw w1 w2) := ⟨Tw.trans HTP.out ht2⟩; clear hp2 ht2))
            have p4 : w2.cell? ⟨k.p, 4, none⟩ = some (.int .i64 (putR U nm s2.en s2.at').1) := HP2.out.kk.cell 4 rfl
            have HL1 : Hid (lay1 U s2 x = ⟨mg, (putR U nm s2.en s2.at').1, s2.outs ++ [putO U nm s2.en s2.at'], (putR U nm s2.en s2.at').2⟩) := ⟨by
              have := lay1_eq U s2 x s2.en (by rw [HGX.out, HMG.out]; rw [if_pos HHP.out])
              rw [HGX.out, HNM.out, HMG.out] at this
              exact this⟩
            have HEQ2 : Hid (layL U (ord U) st0 = if 16777216 < (putR U nm s2.en s2.at').1 then none else layL U ((gn U g).drop (t + 1) ++ restG U (g + 1)) (lay1 U s2 x)) := ⟨by
              rw [HV.out.eq, HDR.out, List.cons_append, layL_go, HL1.out]⟩
            have HPOS : Hid (0 ≤ (putR U nm s2.en s2.at').1) := ⟨HPO.out⟩
            have HNN : Hid ((s2.outs ++ [putO U nm s2.en s2.at']).length + ((gn U g).drop (t + 1) ++ restG U (g + 1)).length ≤ 2097152) := ⟨by
              have := HV.out.n
              rw [HDR.out, List.cons_append, List.length_cons] at this
              rw [List.length_append, List.length_singleton]
              omega⟩
            have HTT : Hid (Tw w1 w2) := ⟨HT2.out⟩
            generalize putO U nm s2.en s2.at' = yo at *
            generalize putR U nm s2.en s2.at' = R at *
            obtain ⟨re, rf⟩ := R
            dsimp only at *
            by_cases hbig : 16777216 < re
            · have HNO : Hid (layL U (ord U) st0 = none) := ⟨by rw [HEQ2.out, if_pos hbig]⟩
              have HBB : Hid (Below B w w2) := ⟨HP2.out.b⟩
              clear HEQ2 HL1 HNN HV
              go_wp2
              try rw [Exit.noGoto_ret]
              go_ret
              exact .inl ⟨HNO.out, rfl, HBB.out⟩
            · rw [if_neg hbig] at HEQ2
              rw [HL1.out] at HEQ2
              have HFIN : Hid (LS w w1 w2 B k U ((gn U g).drop (t + 1) ++ restG U (g + 1)) ⟨mg, re, s2.outs ++ [yo], rf⟩) := ⟨⟨_, _, _, HP2.out⟩, HTT.out, HEQ2.out, HNN.out, HPOS.out, by show re ≤ 16777216; omega⟩
              clear HEQ2 HL1 HNN HV HP2 HPT
              go_wp2
              go_roundw
              case rel => exact ⟨_, _, _, _, ⟨t + 1, hlt2, ⟨mg, re, s2.outs ++ [yo], rf⟩, by first | rfl | (rw [HHP.out]), rfl, by go_num, HFIN⟩, rfl, rfl, rfl, rfl⟩
              case measure => simp [intOf]; omega
          · have hq : (((s2.pg : Nat) : Int) != ((mg : Nat) : Int)) = true := by simp; omega
            have HHP : Hid _ := ⟨hp⟩
            clear hp
            have hup := upA_all s2.en 4096 (by decide)
            have HUP : Hid (∀ W, _) := ⟨fun W => up_any s2.en 4096 12 (by omega) (by decide) hen0 (by omega) W⟩
            have p4a : wr.cell? ⟨k.p, 4, none⟩ = some (.int .i64 s2.en) := HPW.out.kk.cell 4 rfl
            have pfa : wr.frozen? ⟨k.p, 4, none⟩ = false := HPW.out.kk.fro 4
            obtain ⟨E1, hE1⟩ : ∃ E1, upA s2.en 4096 = E1 := ⟨_, rfl⟩
            rw [hE1] at HUP hup
            have HE1 : Hid _ := ⟨hE1⟩
            clear hE1
            have HPP : Hid (PW w (wr.setCell ⟨k.p, 4, none⟩ (.int .i64 E1)) B { k with oa := oa, on' := on, oc := oc } U E1 s2.at' s2.outs) := ⟨HPW.out.setE E1⟩
            have HTP : Hid (Tw w1 (wr.setCell ⟨k.p, 4, none⟩ (.int .i64 E1))) := ⟨HV.out.tw.setC HPW.out.kk (.inl rfl) 4 _⟩
            have HPO : Hid (0 ≤ (putR U nm E1 s2.at').1) := ⟨HPOS0.out _ (by omega)⟩
            go_upto_region 12 with (first
              | (go_at_call 35; refine (HPG.out _).mono ?_; rintro e w' ⟨rfl, hw'⟩; subst w')
              | (go_at_call 36; refine (HUP.out _).mono ?_; rintro e w' ⟨rfl, hw'⟩; subst w'))
            clear p4a pfa
            generalize wr.setCell ⟨k.p, 4, none⟩ (.int .i64 E1) = v3 at *
            go_upto_region 13 with (go_at_call 37; (with_reducible refine (HPT.out _ _ (by omega) (by omega) HPP.out).mono ?_); rintro e w2 ⟨rfl, oa2, on2, oc2, hp2, ht2⟩; have HP2 : Hid (PW w w2 B { k with oa := oa2, on' := on2, oc := oc2 } U (putR U nm E1 s2.at').1 (putR U nm E1 s2.at').2 (s2.outs ++ [putO U nm E1 s2.at'])) := ⟨hp2⟩; have HT2 : Hid (Tw w1 w2) := ⟨Tw.trans HTP.out ht2⟩; clear hp2 ht2)
            have p4 : w2.cell? ⟨k.p, 4, none⟩ = some (.int .i64 (putR U nm E1 s2.at').1) := HP2.out.kk.cell 4 rfl
            have HL1 : Hid (lay1 U s2 x = ⟨mg, (putR U nm E1 s2.at').1, s2.outs ++ [putO U nm E1 s2.at'], (putR U nm E1 s2.at').2⟩) := ⟨by
              have := lay1_eq U s2 x E1 (by rw [HGX.out, HMG.out]; rw [if_neg HHP.out]; exact HE1.out)
              rw [HGX.out, HNM.out, HMG.out] at this
              exact this⟩
            have HEQ2 : Hid (layL U (ord U) st0 = if 16777216 < (putR U nm E1 s2.at').1 then none else layL U ((gn U g).drop (t + 1) ++ restG U (g + 1)) (lay1 U s2 x)) := ⟨by
              rw [HV.out.eq, HDR.out, List.cons_append, layL_go, HL1.out]⟩
            have HPOS : Hid (0 ≤ (putR U nm E1 s2.at').1) := ⟨HPO.out⟩
            have HNN : Hid ((s2.outs ++ [putO U nm E1 s2.at']).length + ((gn U g).drop (t + 1) ++ restG U (g + 1)).length ≤ 2097152) := ⟨by
              have := HV.out.n
              rw [HDR.out, List.cons_append, List.length_cons] at this
              rw [List.length_append, List.length_singleton]
              omega⟩
            have HTT : Hid (Tw w1 w2) := ⟨HT2.out⟩
            generalize putO U nm E1 s2.at' = yo at *
            generalize putR U nm E1 s2.at' = R at *
            obtain ⟨re, rf⟩ := R
            dsimp only at *
            by_cases hbig : 16777216 < re
            · have HNO : Hid (layL U (ord U) st0 = none) := ⟨by rw [HEQ2.out, if_pos hbig]⟩
              have HBB : Hid (Below B w w2) := ⟨HP2.out.b⟩
              clear HEQ2 HL1 HNN HV
              go_wp2
              try rw [Exit.noGoto_ret]
              go_ret
              exact .inl ⟨HNO.out, rfl, HBB.out⟩
            · rw [if_neg hbig] at HEQ2
              rw [HL1.out] at HEQ2
              have HFIN : Hid (LS w w1 w2 B k U ((gn U g).drop (t + 1) ++ restG U (g + 1)) ⟨mg, re, s2.outs ++ [yo], rf⟩) := ⟨⟨_, _, _, HP2.out⟩, HTT.out, HEQ2.out, HNN.out, HPOS.out, by show re ≤ 16777216; omega⟩
              clear HEQ2 HL1 HNN HV HP2 HPT
              go_wp2
              go_roundw
              case rel => exact ⟨_, _, _, _, ⟨t + 1, hlt2, ⟨mg, re, s2.outs ++ [yo], rf⟩, rfl, rfl, by go_num, HFIN⟩, rfl, rfl, rfl, rfl⟩
              case measure => simp [intOf]; omega
        · obtain rfl : t = (gn U g).length := by omega
          have HX : Hid (LS w w1 wr B k U (restG U (g + 1)) s2) := ⟨by have := HV.out; rwa [List.drop_length, List.nil_append] at this⟩
          clear HV
          go_wp2
          go_roundw
          case rel => exact ⟨g + 1, s2, ⟨by omega, by omega⟩, rfl, rfl, by go_num, HX⟩
          case measure => simp [intOf]; omega
    · obtain rfl : g = 9 := by omega
      obtain ⟨oa, on, oc, hpw⟩ := HW.out.pw
      have HPW : Hid _ := ⟨hpw⟩
      have HEQ : Hid _ := ⟨HW.out.eq⟩
      rw [restG_nine] at HEQ
      clear hpw
      go_wp2
      try rw [Exit.noGoto_ret]
      go_ret
      exact .inr ⟨st, HEQ.out, rfl, oa, on, oc, HPW.out⟩
end Go.Proofs.Ytojiomkinhnodaa
