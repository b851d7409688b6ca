/- put. -/
import Derived.Test.YtojiomkinhnodaaYPw
namespace Go.Proofs.Ytojiomkinhnodaa
open Go.ChangeShapes Go.WideShapes Go.ChangeAt Go.RowKit Go.Maps
set_option linter.unusedVariables false
set_option linter.unusedSimpArgs false

def putR (U : List So) (n : ByteArray) (en : Int) (f : Nat → Nat → Int) : Int × (Nat → Nat → Int) := (ps U n).foldl put1 (upA en (mgo U n).al, f)
def putO (U : List So) (n : ByteArray) (en : Int) (f : Nat → Nat → Int) : Ou := { mgo U n with ad := upA en (mgo U n).al, sz := (putR U n en f).1 - upA en (mgo U n).al }
/-- What work is told. -/
structure WIn (w : World) (k : Wk) (l : List Fl) (U : List So) : Prop where
  fls : Fls w k.ao l
  n : k.n = l.length
  hn : l.length ≤ 1048577
  ns : k.ns = l.map (·.secs.length)
  u : U = socc l
  ok : SOk U
  ub : UB U
  len : U.length ≤ 2097152
def PutEnd (w wr : World) (B : Nat) (k : Wk) (U : List So) (en : Int) (f : Nat → Nat → Int) (outs : List Ou) (n : ByteArray) (e : Ending) (w' : World) : Prop :=
  e = .returned (.tuple #[]) ∧ ∃ oa on oc, PW w w' B { k with oa := oa, on' := on, oc := oc } U (putR U n en f).1 (putR U n en f).2 (outs ++ [putO U n en f]) ∧ Tw wr w'
theorem cell_al {w : World} {p : Addr} {v : Value} (h : w.cell? p = some v) (o : Obj) : (w.alloc o).cell? p = some v := up_c h ((Below.refl _ _).alloc (Nat.le_refl _) o)
theorem cell_dr {w : World} {p : Addr} {v : Value} (h : w.cell? p = some v) : w.drew.cell? p = some v := h
theorem cell_so {w : World} {b j g i : Nat} {v : Value} {V : Value} (h : w.cell? ⟨b, j, none⟩ = some v) (hne : b ≠ g) : (w.setCell ⟨g, i, none⟩ V).cell? ⟨b, j, none⟩ = some v := by
  simp only [World.cell?] at h ⊢
  rw [Below.heap_setCell _ _ _ _ hne]
  exact h
theorem wp_appO {w : World} {o : Oper} {a : Act} {K : Act → World → Prop} {Q : Exit → Act → World → Prop} {s x : Operand} (ho : o.op = .call { callee := .builtin .append, args := #[s, x], argTypes := #[24, 24] }) {base : Nat} {v : Value} {L : List Ou} (hs : a.eval s = v) (hown : OwnR 47 6 encO w base v L)
    {q : Nat} {y : Ou} (hx : a.eval x = .slice (some ⟨q, 0, none⟩) 1 1) (hb : Bk w q 47 (encO y).toArray) (hn : L.length ≤ 2097152) (hbase : base ≤ w.heap.size)
    (h : ∀ v' w', OwnR 47 6 encO w' base v' (L ++ [y]) → Step w w' v v' → K (a.put o.dst v') w') :
    o.wp Try.prog a w K Q := by
  obtain ⟨i0, hi, hz0, hz1, hz2⟩ := info_parts infoO
  obtain ⟨v', w', hrun, h2, h3, h4, h5⟩ := run_append_own_at (P := Try.prog) w base 24 o.type 47 i0 _ 6 56 Try.underlying24 hi hz0 hz1 hz2 rfl (by decide) v L.length _ hown ⟨q, 0, none⟩ 1 1 (encO y) (by simp [encO_len]) (by
    intro j u hj
    rw [addr_add]
    refine hb.cell _ ?_
    simpa using hj) (encO_one y) (by unfold maxLen; omega) (by omega) hbase
  unfold Oper.wp execOp
  simp only [ho, resolve, invoke, builtin, Sem.run_bind, Sem.run_pure, Result.andThen_ok, List.map_toArray, List.map_cons, List.map_nil, hs, hx, hrun]
  refine h v' w' ?_ ⟨(Turn.refl _ w).grown h3 (fun k _ e => e), fun k hk => ?_⟩
  · unfold OwnR
    rw [List.flatMap_append]
    simpa using h2
  · rcases h5 with e | e
    · rw [e] at hk; exact .inl hk
    · rw [e] at hk
      simp at hk
      right; omega
theorem step_al {w w1 w' : World} {v v' : Value} (hb : Below w.heap.size w w1) (h : Step w1 w' v v') : Step w w' v v' :=
  ⟨(Turn.of_below hb _).trans h.turn, fun k hk => by
    rcases h.at' k hk with e | e
    · exact .inl e
    · have := hb.size; right; omega⟩
theorem wp_if {c : Prop} [Decidable c] {p q : Prop} (hc : c) (h : p) : if c then p else q := by rw [if_pos hc]; exact h
theorem wp_val {o : Oper} {a : Act} {w w' : World} {K : Act → World → Prop} {Q : Exit → Act → World → Prop} {v : Value} (hx : (execOp a.eval o).run Try.prog w = .ok (.value v) w') (h : K (a.put o.dst v) w') : o.wp Try.prog a w K Q := by
  unfold Oper.wp
  rw [hx, Oper.upon_value]
  exact h
theorem load_outs {w : World} {p : Addr} {a : Option Addr} {n c : Nat} (hc : w.cell? p = some (.slice a n c)) : (loadVar 24 p).run Try.prog w = .ok (.slice a n c) w := by
  simp [loadVar, isAgg, run_underlying Try.underlying24, go_sem, hc]
theorem build_o {o : Oper} {a : Act} {x : Operand} (w : World) (y : Ou) (ho : o.op = .buildSlice 24 1 #[(0, x)]) (hx : a.eval x = y.val) :
    (execOp a.eval o).run Try.prog w = .ok (.value (.slice (some ⟨w.heap.size, 0, none⟩) 1 1)) (w.alloc (.cells (encO y).toArray 47)) := by
  unfold execOp
  simp only [ho, List.map_toArray, List.map_cons, List.map_nil, hx]
  kernel_rfl
theorem tw_step {w w' : World} {v v' : Value} {base s n : Nat} {xs : List Value} (h : Step w w' v v') (hr : w.ownsRow base 47 s v n xs) : Tw w w' :=
  h.turn.mono (fun q _ hq => by
    obtain ⟨_, _, cur, hc⟩ := own_cells2 hr q hq
    exact ⟨cur, _, hc, .inr (.inr (.inl rfl))⟩)
theorem sizeO : (Try.prog.info? 47).map (·.size) = some 6 := by kernel_rfl

set_option maxHeartbeats 16000000 in
set_option maxRecDepth 20000 in
theorem put_any {w w0 : World} {B : Nat} {k : Wk} {l : List Fl} {U : List So} {en : Int} {f : Nat → Nat → Int} {outs : List Ou} (hB : w.heap.size = B) (hI : WIn w k l U) (h : PW w w0 B k U en f outs) (h0 : 0 ≤ en) (h1 : en ≤ 1073741824) (hol : outs.length ≤ 2097152) (n : ByteArray) (hn : ps U n ≠ []) :
    Calls Try.prog 37 #[.pointer (some ⟨k.p, 0, none⟩), .string n] w0 fun e w' => PutEnd w w0 B k U en f outs n e w' := by
  have hnz := hI.ub.nz hn
  rcases h.m.getE n with ⟨_, h2⟩ | ⟨pv, hF, _, hrow⟩
  · exact absurd h2 hn
  obtain ⟨pa, pc, hpv, _, _, _, hpc⟩ := hrow.any encP_len
  subst hpv
  rcases hpc with hpc | ⟨g, hg, hgB, hgl, hcell⟩
  · exact absurd hpc hn
  subst hg
  obtain ⟨j, hj, hal⟩ := maxA_pow (ps U n) hn (fun y hy => hI.ok.al y (ps_mem.1 hy).1)
  have hal2 : (mgo U n).al = 2 ^ j := hal
  have HUP : Hid (∀ W, _) := ⟨fun W => up_any en (mgo U n).al j hj hal2 h0 (by omega) W⟩
  have HPE : Hid (∀ e w', PutEnd w w0 B k U en f outs n e w' ↔ _) := ⟨fun e w' => Iff.rfl⟩
  have hgo : mgo U n = ⟨n, (mgo U n).ty, (mgo U n).fl, (mgo U n).al, 0, 0⟩ := rfl
  have had := upA_all en (mgo U n).al (by rw [hal2]; exact pow_pos2 j)
  have hal3 : (mgo U n).al ≤ 4096 := by rw [hal2]; exact pow_le12 j hj
  have HI : Hid _ := ⟨hI⟩
  have HH : Hid _ := ⟨h⟩
  clear hI h hal hal2 hj hrow
  generalize hty : (mgo U n).ty = ty at *
  generalize hfl : (mgo U n).fl = fl at *
  generalize hall : (mgo U n).al = al at *
  have HGO : Hid _ := ⟨hgo⟩
  have HAL : Hid _ := ⟨hall⟩
  clear hty hfl hall
  rw [hgo] at hF
  clear hgo
  have k1 : w0.cell? ⟨k.p, 1, none⟩ = some (.map (some k.b)) := HH.out.kk.cell 1 rfl
  go_enter Try.func37, Try.ntmps37
  go_upto_region 1 with (at_lookup; refine wpList_lookV rfl _ _ 61 rfl 89 Try.underlying61 (zeroM _) rfl HH.out.m.mp rfl hnz ?_; rw [hF]; dsimp only [mval, Option.getD])
  have KM0 := Bk.new w0 #[.string n, .int .i64 ty, .int .i64 fl, .int .i64 al, .int .i64 0, .int .i64 0, .slice (some ⟨g, 0, none⟩) (ps U n).length pc] 89
  have KO0 := Bk.new (w0.alloc (.cells #[.string n, .int .i64 ty, .int .i64 fl, .int .i64 al, .int .i64 0, .int .i64 0, .slice (some ⟨g, 0, none⟩) (ps U n).length pc] 89)) #[.string n, .int .i64 ty, .int .i64 fl, .int .i64 al, .int .i64 0, .int .i64 0] 47
  have hs1 : (w0.alloc (.cells #[.string n, .int .i64 ty, .int .i64 fl, .int .i64 al, .int .i64 0, .int .i64 0, .slice (some ⟨g, 0, none⟩) (ps U n).length pc] 89)).heap.size = w0.heap.size + 1 := by simp
  rw [hs1] at KO0
  have HM2 : Hid (Bk ((w0.alloc (.cells #[.string n, .int .i64 ty, .int .i64 fl, .int .i64 al, .int .i64 0, .int .i64 0, .slice (some ⟨g, 0, none⟩) (ps U n).length pc] 89)).alloc (.cells #[.string n, .int .i64 ty, .int .i64 fl, .int .i64 al, .int .i64 0, .int .i64 0] 47)) w0.heap.size 89 #[.string n, .int .i64 ty, .int .i64 fl, .int .i64 al, .int .i64 0, .int .i64 0, .slice (some ⟨g, 0, none⟩) (ps U n).length pc]) := ⟨KM0.alloc _⟩
  have HO2 : Hid (Bk ((w0.alloc (.cells #[.string n, .int .i64 ty, .int .i64 fl, .int .i64 al, .int .i64 0, .int .i64 0, .slice (some ⟨g, 0, none⟩) (ps U n).length pc] 89)).alloc (.cells #[.string n, .int .i64 ty, .int .i64 fl, .int .i64 al, .int .i64 0, .int .i64 0] 47)) (w0.heap.size + 1) 47 #[.string n, .int .i64 ty, .int .i64 fl, .int .i64 al, .int .i64 0, .int .i64 0]) := ⟨KO0⟩
  have HP2 : Hid (PW w ((w0.alloc (.cells #[.string n, .int .i64 ty, .int .i64 fl, .int .i64 al, .int .i64 0, .int .i64 0, .slice (some ⟨g, 0, none⟩) (ps U n).length pc] 89)).alloc (.cells #[.string n, .int .i64 ty, .int .i64 fl, .int .i64 al, .int .i64 0, .int .i64 0] 47)) B k U en f outs) := ⟨(HH.out.alloc hB _).alloc hB _⟩
  have HNO : Hid (PNe k (w0.heap.size + 1) ∧ B ≤ w0.heap.size + 1) := ⟨HH.out.fresh (by omega), by have := HH.out.b.size; omega⟩
  have HT2 : Hid (Tw w0 ((w0.alloc (.cells #[.string n, .int .i64 ty, .int .i64 fl, .int .i64 al, .int .i64 0, .int .i64 0, .slice (some ⟨g, 0, none⟩) (ps U n).length pc] 89)).alloc (.cells #[.string n, .int .i64 ty, .int .i64 fl, .int .i64 al, .int .i64 0, .int .i64 0] 47))) := ⟨((Tw.refl _).alloc _).alloc _⟩
  have m0 := KM0.cell 0 rfl
  have m1 := KM0.cell 1 rfl
  have m2 := KM0.cell 2 rfl
  have m3 := KM0.cell 3 rfl
  have m4 := KM0.cell 4 rfl
  have m5 := KM0.cell 5 rfl
  go_upto_region 2 with (fail)
  clear m0 m1 m2 m3 m4 m5 KM0 KO0 hs1 k1
  generalize ((w0.alloc (.cells #[.string n, .int .i64 ty, .int .i64 fl, .int .i64 al, .int .i64 0, .int .i64 0, .slice (some ⟨g, 0, none⟩) (ps U n).length pc] 89)).alloc (.cells #[.string n, .int .i64 ty, .int .i64 fl, .int .i64 al, .int .i64 0, .int .i64 0] 47)) = v2 at *
  obtain ⟨M, hM⟩ : ∃ M, w0.heap.size = M := ⟨_, rfl⟩
  have HMM : Hid _ := ⟨hM⟩
  rw [hM] at HM2 HO2 HNO
  obtain ⟨O, hO⟩ : ∃ O, M + 1 = O := ⟨_, rfl⟩
  rw [hO] at HO2 HNO
  have HMO : Hid (M ≠ O) := ⟨by omega⟩
  have HMP : Hid (M ≠ k.p) := ⟨by have := HH.out.kk.lt; omega⟩
  rw [hM, hO]
  clear hM hO
  generalize hadd : upA en al = ad at *
  have HAD : Hid _ := ⟨hadd⟩
  clear hadd
  have p4 : v2.drew.cell? ⟨k.p, 4, none⟩ = some (.int .i64 en) := HP2.out.kk.cell 4 rfl
  have o3 : v2.drew.cell? ⟨O, 3, none⟩ = some (.int .i64 al) := HO2.out.cell 3 rfl
  have o4 : v2.drew.cell? ⟨O, 4, none⟩ = some (.int .i64 0) := HO2.out.cell 4 rfl
  have of4 : v2.drew.frozen? ⟨O, 4, none⟩ = false := HO2.out.fro 4
  have y4 : (v2.setCell ⟨O, 4, none⟩ (.int .i64 ad)).drew.cell? ⟨k.p, 4, none⟩ = some (.int .i64 en) := (HP2.out.setQ HNO.out.1 HNO.out.2 4 (.int .i64 ad)).kk.cell 4 rfl
  have y3 : (v2.setCell ⟨O, 4, none⟩ (.int .i64 ad)).drew.cell? ⟨O, 3, none⟩ = some (.int .i64 al) := (HO2.out.setC 4 (.int .i64 ad)).cell 3 rfl
  go_region_held3 (fun x => x.cell? ⟨k.p, 4, none⟩ = some (.int .i64 en) ∧ x.cell? ⟨O, 3, none⟩ = some (.int .i64 al))
    (first | (with_reducible assumption) | exact ⟨p4, o3⟩ | exact ⟨y4, y3⟩)
    (first
      | (go_at_call 36; (with_reducible refine (HUP.out _).mono ?_); rintro e w' ⟨rfl, hw'⟩; subst w'))
  clear p4 o3 o4 of4 y4 y3
  have HP3 : Hid (PW w (v2.setCell ⟨O, 4, none⟩ (.int .i64 ad)).drew B k U en f outs) := ⟨(HP2.out.setQ HNO.out.1 HNO.out.2 4 _).drew hB⟩
  have HO3 : Hid (Bk (v2.setCell ⟨O, 4, none⟩ (.int .i64 ad)).drew O 47 #[.string n, .int .i64 ty, .int .i64 fl, .int .i64 al, .int .i64 ad, .int .i64 0]) := ⟨⟨(HO2.out.setC 4 (.int .i64 ad)).hp⟩⟩
  have HM3 : Hid (Bk (v2.setCell ⟨O, 4, none⟩ (.int .i64 ad)).drew M 89 #[.string n, .int .i64 ty, .int .i64 fl, .int .i64 al, .int .i64 0, .int .i64 0, .slice (some ⟨g, 0, none⟩) (ps U n).length pc]) := ⟨⟨(HM2.out.setCo ⟨O, 4, none⟩ (.int .i64 ad) HMO.out).hp⟩⟩
  have HT3 : Hid (Tw w0 (v2.setCell ⟨O, 4, none⟩ (.int .i64 ad)).drew) := ⟨(HT2.out.setC HO2.out (.inr (.inr (.inl rfl))) 4 _).bel (Below.refl _ _).drew⟩
  clear HP2 HO2 HM2 HT2
  generalize (v2.setCell ⟨O, 4, none⟩ (.int .i64 ad)).drew = v3 at *
  have o4 := HO3.out.cell 4 rfl
  have p4 := HP3.out.kk.cell 4 rfl
  have pf := HP3.out.kk.fro 4
  go_upto_region 4 with (fail)
  have HP4 : Hid (PW w (v3.setCell ⟨k.p, 4, none⟩ (.int .i64 ad)) B k U ad f outs) := ⟨HP3.out.setE ad⟩
  have HO4 : Hid (Bk (v3.setCell ⟨k.p, 4, none⟩ (.int .i64 ad)) O 47 #[.string n, .int .i64 ty, .int .i64 fl, .int .i64 al, .int .i64 ad, .int .i64 0]) := ⟨HO3.out.setCo _ _ HNO.out.1.p⟩
  have HM4 : Hid (Bk (v3.setCell ⟨k.p, 4, none⟩ (.int .i64 ad)) M 89 #[.string n, .int .i64 ty, .int .i64 fl, .int .i64 al, .int .i64 0, .int .i64 0, .slice (some ⟨g, 0, none⟩) (ps U n).length pc]) := ⟨HM3.out.setCo _ _ HMP.out⟩
  have HT4 : Hid (Tw w0 (v3.setCell ⟨k.p, 4, none⟩ (.int .i64 ad))) := ⟨HT3.out.setC HP3.out.kk (.inl rfl) 4 _⟩
  clear o4 p4 pf HP3 HO3 HM3 HT3
  generalize v3.setCell ⟨k.p, 4, none⟩ (.int .i64 ad) = v4 at *
  have m6 := HM4.out.cell 6 rfl
  go_upto_region 5 with (fail)
  clear m6
  have HBND : Hid (∀ t, t ≤ (ps U n).length → 0 ≤ (((ps U n).take t).foldl put1 (ad, f)).1 ∧ (((ps U n).take t).foldl put1 (ad, f)).1 ≤ 9007199254740992) := ⟨fun t ht => by
    have hsub : ∀ x ∈ (ps U n).take t, x ∈ U := fun x hx => (ps_mem.1 (List.mem_of_mem_take hx)).1
    have b1 := (put_fold ((ps U n).take t) ad f (fun x hx => ⟨HI.out.ok.al1 (hsub x hx), (HI.out.ok.sz x (hsub x hx)).1⟩) ((HI.out.ok.up.sublist List.filter_sublist).sublist (List.take_sublist _ _))).1
    have b2 := put_bound ((ps U n).take t) ad f (fun x hx => ⟨HI.out.ok.al1 (hsub x hx), by obtain ⟨j, hj, e⟩ := HI.out.ok.al x (hsub x hx); rw [e]; exact pow_le12 j hj, (HI.out.ok.sz x (hsub x hx)).2⟩)
    have b3 : ((ps U n).take t).length ≤ 2097152 := by
      have h1 : (ps U n).length ≤ U.length := List.length_filter_le _ _
      have h2 := HI.out.len
      simp
      omega
    generalize ((ps U n).take t).foldl put1 (ad, f) = R at *
    generalize ((ps U n).take t).length = T at *
    omega⟩
  have hpl : (ps U n).length ≤ 2097152 := by
    have h1 : (ps U n).length ≤ U.length := List.length_filter_le _ _
    have h2 := HI.out.len
    omega
  go_loopw [34] (fun i wr => ∃ t : Nat, t ≤ (ps U n).length ∧ i = .int .i64 t ∧ Hid (PW w wr B k U (((ps U n).take t).foldl put1 (ad, f)).1 (((ps U n).take t).foldl put1 (ad, f)).2 outs ∧ Bk wr O 47 #[.string n, .int .i64 ty, .int .i64 fl, .int .i64 al, .int .i64 ad, .int .i64 0] ∧ Tw w0 wr)) (fun i _ => (ps U n).length - (intOf i).toNat)
  case atStart => exact ⟨0, by omega, rfl, ⟨by simpa using HP4.out, HO4.out, HT4.out⟩⟩
  case round =>
    obtain ⟨t, ht, rfl, HV⟩ := hrel
    by_cases hlt : t < (ps U n).length
    · have HRO : Hid _ := ⟨(HV.out.1.m.at' n _ _ hF).2⟩
      obtain ⟨_, _, hpv2, _, _, _, hpc2⟩ := HRO.out.any encP_len
      injection hpv2 with e1 _ _
      subst e1
      rcases hpc2 with hpc2 | ⟨g2, hg2, _, _, hcell2⟩
      · exact absurd hpc2 hn
      injection hg2 with hg2
      injection hg2 with hg2 _ _
      subst hg2
      have hxU : (ps U n)[t] ∈ U := (ps_mem.1 (List.getElem_mem hlt)).1
      have c0 := hcell2 t hlt 0 (by decide)
      have c1 := hcell2 t hlt 1 (by decide)
      obtain ⟨j2, hj2, hal2⟩ := HI.out.ok.al _ hxU
      obtain ⟨sz0, sz1⟩ := HI.out.ok.sz _ hxU
      have hall : ∀ y, y ∈ U → y ∈ socc l := fun y hy => by rw [← HI.out.u]; exact hy
      have hxm := hall _ hxU
      clear hall
      obtain ⟨fi, hf1, hf2⟩ := mem_socc.1 hxm
      have HST : Hid (((ps U n).take (t + 1)).foldl put1 (ad, f) = put1 (((ps U n).take t).foldl put1 (ad, f)) (ps U n)[t]) := ⟨by rw [List.take_succ_eq_append_getElem hlt, List.foldl_append]; rfl⟩
      obtain ⟨hr0, hr1⟩ := HBND.out t ht
      obtain ⟨x, hx⟩ : ∃ x, x = (ps U n)[t] := ⟨_, rfl⟩
      rw [← hx] at c0 c1 hal2 sz0 sz1 hf1 hf2 HST
      clear hx hcell2 hxU hxm HRO
      generalize hR1 : ((ps U n).take (t + 1)).foldl put1 (ad, f) = R1 at HST
      have HR1 : Hid _ := ⟨hR1⟩
      clear hR1
      generalize ((ps U n).take t).foldl put1 (ad, f) = R at *
      obtain ⟨re, rf⟩ := R
      obtain ⟨xo, xk, nm, sty, sfl, sal, da, dn, dc, ssz, ra, rn, rc⟩ := x
      dsimp only [encP] at *
      simp only [List.getElem?_cons_zero, List.getElem?_cons_succ, Nat.add_zero] at c0 c1
      have hoN : xo < l.length := (List.getElem?_eq_some_iff.1 hf1).1
      have hkN : xk < fi.secs.length := (List.getElem?_eq_some_iff.1 hf2).1
      obtain ⟨fb, foff, hao, hfl0⟩ : ∃ b off, k.ao = some ⟨b, off, none⟩ ∧ ∀ i, i < l.length → FlAt wr b (off + i * 2) (l.getD i Fl.zero) := by
        rcases HI.out.fls.below HV.out.1.b (by omega) with h | h
        · rw [h] at hoN; simp at hoN
        · exact h
      obtain ⟨f0, _, hfi⟩ := hfl0 xo hoN
      have hgd : l.getD xo Fl.zero = fi := by rw [List.getD_eq_getElem?_getD, hf1]; rfl
      rw [hgd] at f0 hfi
      have hse := hfi.se
      obtain ⟨sa, sc, secs, ya, yc, syms⟩ := fi
      dsimp only at *
      obtain ⟨sb, soff, hsa, hsec⟩ : ∃ b off, sa = some ⟨b, off, none⟩ ∧ ∀ i, i < secs.length → SecAt wr b (off + i * 7) (secs.getD i Sec.zero) := by
        rcases hse with h | h
        · rw [h] at hkN; simp at hkN
        · exact h
      subst hsa
      obtain ⟨s0, s1, s2, s3, s4, s5, s6⟩ := hsec xk hkN
      have hgd2 : secs.getD xk Sec.zero = ⟨nm, sty, sfl, sal, da, dn, dc, ssz, ra, rn, rc⟩ := by rw [List.getD_eq_getElem?_getD, hf2]; rfl
      rw [hgd2] at s0 s1 s2 s3 s4 s5 s6
      dsimp only at s0 s1 s2 s3 s4 s5 s6
      have hoM : xo < k.n := by rw [HI.out.n]; exact hoN
      have hoS : xo < k.ns.length := by rw [HI.out.ns]; simpa using hoN
      have hkS : xk < k.ns.getD xo 0 := by
        rw [HI.out.ns, List.getD_eq_getElem?_getD, List.getElem?_map, hf1]
        exact hkN
      have HP6 : Hid (PW w (wr.alloc (.cells #[.int .i64 (xo : Int), .int .i64 (xk : Int)] 93)) B k U re rf outs) := ⟨HV.out.1.alloc hB _⟩
      have HO6 : Hid (Bk (wr.alloc (.cells #[.int .i64 (xo : Int), .int .i64 (xk : Int)] 93)) O 47 #[.string n, .int .i64 ty, .int .i64 fl, .int .i64 al, .int .i64 ad, .int .i64 0]) := ⟨HV.out.2.1.alloc _⟩
      have HT6 : Hid (Tw w0 (wr.alloc (.cells #[.int .i64 (xo : Int), .int .i64 (xk : Int)] 93))) := ⟨HV.out.2.2.alloc _⟩
      have HD6 : Hid (Bk (wr.alloc (.cells #[.int .i64 (xo : Int), .int .i64 (xk : Int)] 93)) wr.heap.size 93 #[.int .i64 (xo : Int), .int .i64 (xk : Int)]) := ⟨Bk.new _ _ _⟩
      have HUR : Hid (∀ W, _) := ⟨fun W => up_any re sal j2 hj2 hal2 hr0 (by omega) W⟩
      have hup := upA_all re sal (by rw [hal2]; exact pow_pos2 j2)
      have hsal : sal ≤ 4096 := by rw [hal2]; exact pow_le12 j2 hj2
      clear hal2 hj2 hse hsec hfl0 hf1 hf2 hfi hgd hgd2
      go_upto_region 7 with (fail)
      obtain ⟨D, hD⟩ : ∃ D, wr.heap.size = D := ⟨_, rfl⟩
      rw [hD] at HD6 ⊢
      have HDN : Hid (PNe k D) := ⟨HV.out.1.fresh (by omega)⟩
      have HDO : Hid (D ≠ O) := ⟨by have := HV.out.2.1.lt; omega⟩
      clear hD HV c0 c1
      have HS6 : Hid (∀ W, Below wr.heap.size wr W → _) := ⟨fun W hW => And.intro (up_c f0 hW) (And.intro (up_c s0 hW) (And.intro (up_c s1 hW) (And.intro (up_c s2 hW) (And.intro (up_c s3 hW) (And.intro (up_c s4 hW) (And.intro (up_c s5 hW) (up_c s6 hW)))))))⟩
      clear f0 s0 s1 s2 s3 s4 s5 s6
      obtain ⟨f0, s0, s1, s2, s3, s4, s5, s6⟩ := HS6.out (wr.alloc (.cells #[.int .i64 (xo : Int), .int .i64 (xk : Int)] 93)) ((Below.refl _ _).alloc (Nat.le_refl _) _)
      clear HS6
      generalize wr.alloc (.cells #[.int .i64 (xo : Int), .int .i64 (xk : Int)] 93) = v6 at *
      have p0 : v6.cell? ⟨k.p, 0, none⟩ = some (.slice k.ao k.n k.c) := HP6.out.kk.cell 0 rfl
      have d0 : v6.cell? ⟨D, 0, none⟩ = some (.int .i64 xo) := HD6.out.cell 0 rfl
      have d1 : v6.cell? ⟨D, 1, none⟩ = some (.int .i64 xk) := HD6.out.cell 1 rfl
      rw [hao] at p0
      go_region_held3 (fun W => W.cell? ⟨k.p, 0, none⟩ = some (.slice (some ⟨fb, foff, none⟩) k.n k.c) ∧ W.cell? ⟨D, 0, none⟩ = some (.int .i64 xo) ∧ W.cell? ⟨D, 1, none⟩ = some (.int .i64 xk) ∧ W.cell? ⟨fb, foff + xo * 2, none⟩ = some (.slice (some ⟨sb, soff, none⟩) secs.length sc) ∧ W.cell? ⟨sb, soff + xk * 7, none⟩ = some (.string nm) ∧ W.cell? ⟨sb, soff + xk * 7 + 1, none⟩ = some (.int .i64 sty) ∧ W.cell? ⟨sb, soff + xk * 7 + 2, none⟩ = some (.int .i64 sfl) ∧ W.cell? ⟨sb, soff + xk * 7 + 3, none⟩ = some (.int .i64 sal) ∧ W.cell? ⟨sb, soff + xk * 7 + 4, none⟩ = some (.slice da dn dc) ∧ W.cell? ⟨sb, soff + xk * 7 + 5, none⟩ = some (.int .i64 ssz) ∧ W.cell? ⟨sb, soff + xk * 7 + 6, none⟩ = some (.slice ra rn rc))
        (((try dsimp only); (repeat' apply And.intro) <;> (repeat (first | (with_reducible assumption) | (with_reducible refine cell_dr ?_) | (with_reducible refine cell_al ?_ _)))))
        (fail)
      have HP8 : Hid (PW w (v6.alloc (.cells #[.string nm, .int .i64 sty, .int .i64 sfl, .int .i64 sal, .slice da dn dc, .int .i64 ssz, .slice ra rn rc] 52)).drew B k U re rf outs) := ⟨(HP6.out.alloc hB _).drew hB⟩
      have HO8 : Hid (Bk (v6.alloc (.cells #[.string nm, .int .i64 sty, .int .i64 sfl, .int .i64 sal, .slice da dn dc, .int .i64 ssz, .slice ra rn rc] 52)).drew O 47 #[.string n, .int .i64 ty, .int .i64 fl, .int .i64 al, .int .i64 ad, .int .i64 0]) := ⟨⟨(HO6.out.alloc _).hp⟩⟩
      have HD8 : Hid (Bk (v6.alloc (.cells #[.string nm, .int .i64 sty, .int .i64 sfl, .int .i64 sal, .slice da dn dc, .int .i64 ssz, .slice ra rn rc] 52)).drew D 93 #[.int .i64 (xo : Int), .int .i64 (xk : Int)]) := ⟨⟨(HD6.out.alloc _).hp⟩⟩
      have HX8 : Hid (Bk (v6.alloc (.cells #[.string nm, .int .i64 sty, .int .i64 sfl, .int .i64 sal, .slice da dn dc, .int .i64 ssz, .slice ra rn rc] 52)).drew v6.heap.size 52 #[.string nm, .int .i64 sty, .int .i64 sfl, .int .i64 sal, .slice da dn dc, .int .i64 ssz, .slice ra rn rc]) := ⟨⟨(Bk.new v6 #[.string nm, .int .i64 sty, .int .i64 sfl, .int .i64 sal, .slice da dn dc, .int .i64 ssz, .slice ra rn rc] 52).hp⟩⟩
      have HT8 : Hid (Tw w0 (v6.alloc (.cells #[.string nm, .int .i64 sty, .int .i64 sfl, .int .i64 sal, .slice da dn dc, .int .i64 ssz, .slice ra rn rc] 52)).drew) := ⟨(HT6.out.alloc _).bel (Below.refl _ _).drew⟩
      obtain ⟨X, hX⟩ : ∃ X, v6.heap.size = X := ⟨_, rfl⟩
      have HNX : Hid (PNe k X ∧ PNe k D ∧ X ≠ O ∧ D ≠ O) := ⟨HP6.out.fresh (by omega), HDN.out, by have := HO6.out.lt; omega, HDO.out⟩
      rw [hX] at HX8 ⊢
      clear hX p0 d0 d1 f0 s0 s1 s2 s3 s4 s5 s6 HP6 HO6 HD6 HT6
      generalize (v6.alloc (.cells #[.string nm, .int .i64 sty, .int .i64 sfl, .int .i64 sal, .slice da dn dc, .int .i64 ssz, .slice ra rn rc] 52)).drew = v8 at *
      have p4 : v8.drew.cell? ⟨k.p, 4, none⟩ = some (.int .i64 re) := HP8.out.kk.cell 4 rfl
      have x3 : v8.drew.cell? ⟨X, 3, none⟩ = some (.int .i64 sal) := HX8.out.cell 3 rfl
      go_upto_region 8 with (fail)
      go_region_held3 (fun W => W.cell? ⟨k.p, 4, none⟩ = some (.int .i64 re) ∧ W.cell? ⟨X, 3, none⟩ = some (.int .i64 sal))
        (first | (with_reducible assumption) | exact ⟨p4, x3⟩)
        (first
          | (go_at_call 36; (with_reducible refine (HUR.out _).mono ?_); rintro e w' ⟨rfl, hw'⟩; subst w'))
      clear p4 x3 HUR
      generalize hA : upA re sal = A at *
      have HA : Hid _ := ⟨hA⟩
      clear hA
      have HP9 : Hid (PW w v8.drew B k U re rf outs) := ⟨HP8.out.drew hB⟩
      have HO9 : Hid (Bk v8.drew O 47 #[.string n, .int .i64 ty, .int .i64 fl, .int .i64 al, .int .i64 ad, .int .i64 0]) := ⟨⟨HO8.out.hp⟩⟩
      have HD9 : Hid (Bk v8.drew D 93 #[.int .i64 (xo : Int), .int .i64 (xk : Int)]) := ⟨⟨HD8.out.hp⟩⟩
      have HX9 : Hid (Bk v8.drew X 52 #[.string nm, .int .i64 sty, .int .i64 sfl, .int .i64 sal, .slice da dn dc, .int .i64 ssz, .slice ra rn rc]) := ⟨⟨HX8.out.hp⟩⟩
      have HT9 : Hid (Tw w0 v8.drew) := ⟨HT8.out.bel (Below.refl _ _).drew⟩
      clear HP8 HO8 HD8 HX8 HT8
      generalize v8.drew = v9 at *
      go_upto_region 9 with (fail)
      obtain ⟨va2, vc2, hva, hvr⟩ := HP9.out.a.any
      injection hva with hv1 hv2 hv3
      rcases hvr with hvr | ⟨vg, hvg, _, hvr⟩
      · omega
      subst hvg
      obtain ⟨a0, a1⟩ := hvr xo hoS
      have a2 := a1 xk hkS
      have hb0 := (HP9.out.a.bk xo hoS)
      have p2 : v9.cell? ⟨k.p, 2, none⟩ = some (.slice (some ⟨vg, 0, none⟩) k.vn k.vc) := by rw [← hv1]; exact HP9.out.kk.cell 2 rfl
      have d0 : v9.cell? ⟨D, 0, none⟩ = some (.int .i64 xo) := HD9.out.cell 0 rfl
      have d1 : v9.cell? ⟨D, 1, none⟩ = some (.int .i64 xk) := HD9.out.cell 1 rfl
      have haf : v9.drew.frozen? ⟨k.bs xo, xk, none⟩ = false := hb0.2.fro xk
      have hvn : xo < k.vn := by rw [hv2]; exact hoS
      have HPA : Hid (PW w (v9.setCell ⟨k.bs xo, xk, none⟩ (.int .i64 A)) B k U re (setA rf xo xk A) outs) := ⟨HP9.out.setA xo xk hoS A⟩
      have HDA : Hid (Bk (v9.setCell ⟨k.bs xo, xk, none⟩ (.int .i64 A)) D 93 #[.int .i64 (xo : Int), .int .i64 (xk : Int)]) := ⟨HD9.out.setCo _ _ (Ne.symm (HNX.out.2.1.bs xo hoS))⟩
      have HXA : Hid (Bk (v9.setCell ⟨k.bs xo, xk, none⟩ (.int .i64 A)) X 52 #[.string nm, .int .i64 sty, .int .i64 sfl, .int .i64 sal, .slice da dn dc, .int .i64 ssz, .slice ra rn rc]) := ⟨HX9.out.setCo _ _ (Ne.symm (HNX.out.1.bs xo hoS))⟩
      have HOA : Hid (Bk (v9.setCell ⟨k.bs xo, xk, none⟩ (.int .i64 A)) O 47 #[.string n, .int .i64 ty, .int .i64 fl, .int .i64 al, .int .i64 ad, .int .i64 0]) := ⟨HO9.out.setCo _ _ (Ne.symm (HNO.out.1.bs xo hoS))⟩
      have HTA : Hid (Tw w0 (v9.setCell ⟨k.bs xo, xk, none⟩ (.int .i64 A))) := ⟨HT9.out.setC hb0.2 (.inr (.inl rfl)) _ _⟩
      obtain ⟨va3, vc3, hva3, hvr3⟩ := HPA.out.a.any
      injection hva3 with hv31 hv32 hv33
      have hvgg : va3 = some ⟨vg, 0, none⟩ := by rw [← hv31]; exact hv1
      rcases hvr3 with hvr3 | ⟨vg3, hvg3, _, hvr3⟩
      · omega
      rw [hvg3] at hvgg
      injection hvgg with hvgg
      injection hvgg with hvgg _ _
      subst hvgg
      obtain ⟨b0, _⟩ := hvr3 xo hoS
      have q2 : (v9.setCell ⟨k.bs xo, xk, none⟩ (.int .i64 A)).cell? ⟨k.p, 2, none⟩ = some (.slice (some ⟨vg3, 0, none⟩) k.vn k.vc) := by rw [← hv1]; exact HPA.out.kk.cell 2 rfl
      have e0 : (v9.setCell ⟨k.bs xo, xk, none⟩ (.int .i64 A)).cell? ⟨D, 0, none⟩ = some (.int .i64 xo) := HDA.out.cell 0 rfl
      have e1 : (v9.setCell ⟨k.bs xo, xk, none⟩ (.int .i64 A)).cell? ⟨D, 1, none⟩ = some (.int .i64 xk) := HDA.out.cell 1 rfl
      have a2d : v9.drew.cell? ⟨k.bs xo, xk, none⟩ = some (.int .i64 (rf xo xk)) := a2
      clear hvr hvr3 hb0 a1 a2
      generalize k.ns.getD xo 0 = nx at *
      go_region_held3 (fun W => W.cell? ⟨k.p, 2, none⟩ = some (.slice (some ⟨vg3, 0, none⟩) k.vn k.vc) ∧ W.cell? ⟨D, 0, none⟩ = some (.int .i64 xo) ∧ W.cell? ⟨vg3, xo, none⟩ = some (.slice (some ⟨k.bs xo, 0, none⟩) nx nx) ∧ W.cell? ⟨D, 1, none⟩ = some (.int .i64 xk))
        (((try dsimp only); (repeat' apply And.intro) <;> (repeat (first | (with_reducible assumption) | (with_reducible refine cell_dr ?_)))))
        (fail)
      clear p2 d0 d1 a0 haf q2 e0 e1 b0 a2d HP9 HD9 HX9 HO9 HT9
      generalize hvA : (v9.setCell ⟨k.bs xo, xk, none⟩ (.int .i64 A)) = vA at *
      clear hvA
      have HPB : Hid (PW w vA.drew B k U re (setA rf xo xk A) outs) := ⟨HPA.out.drew hB⟩
      have HOB : Hid (Bk vA.drew O 47 #[.string n, .int .i64 ty, .int .i64 fl, .int .i64 al, .int .i64 ad, .int .i64 0]) := ⟨⟨HOA.out.hp⟩⟩
      have HXB : Hid (Bk vA.drew X 52 #[.string nm, .int .i64 sty, .int .i64 sfl, .int .i64 sal, .slice da dn dc, .int .i64 ssz, .slice ra rn rc]) := ⟨⟨HXA.out.hp⟩⟩
      have HTB : Hid (Tw w0 vA.drew) := ⟨HTA.out.bel (Below.refl _ _).drew⟩
      clear HPA HOA HXA HTA HDA
      generalize vA.drew = vB at *
      have x5 := HXB.out.cell 5 rfl
      have p4 := HPB.out.kk.cell 4 rfl
      have pf := HPB.out.kk.fro 4
      go_upto_region 11 with (fail)
      have HFIN : Hid (PW w (vB.setCell ⟨k.p, 4, none⟩ (.int .i64 (A + ssz))) B k U R1.1 R1.2 outs ∧ Bk (vB.setCell ⟨k.p, 4, none⟩ (.int .i64 (A + ssz))) O 47 #[.string n, .int .i64 ty, .int .i64 fl, .int .i64 al, .int .i64 ad, .int .i64 0] ∧ Tw w0 (vB.setCell ⟨k.p, 4, none⟩ (.int .i64 (A + ssz)))) := ⟨by rw [HST.out, show put1 (re, rf) ⟨xo, xk, ⟨nm, sty, sfl, sal, da, dn, dc, ssz, ra, rn, rc⟩⟩ = (A + ssz, setA rf xo xk A) from by unfold put1; dsimp only; rw [HA.out]]; exact HPB.out.setE (A + ssz), HOB.out.setCo _ _ HNO.out.1.p, HTB.out.setC HPB.out.kk (.inl rfl) 4 _⟩
      clear x5 p4 pf HPB HOB HXB HTB
      go_wp2
      go_roundw
      case rel => exact ⟨_, _, _, _, ⟨t + 1, hlt, by go_num, ⟨by rw [HR1.out]; exact HFIN.out.1, HFIN.out.2⟩⟩, rfl, rfl, rfl, rfl⟩
      case measure => simp [intOf]; omega
    · obtain rfl : t = (ps U n).length := by omega
      have hbe := HBND.out _ (Nat.le_refl _)
      have hle := (put_fold (ps U n) ad f (fun x hx => ⟨HI.out.ok.al1 (ps_mem.1 hx).1, (HI.out.ok.sz x (ps_mem.1 hx).1).1⟩) (HI.out.ok.up.sublist List.filter_sublist)).1
      rw [List.take_of_length_le (Nat.le_refl _)] at HV hbe
      have HPUT : Hid (putR U n en f = (ps U n).foldl put1 (ad, f)) := ⟨by unfold putR; rw [HAL.out, HAD.out]⟩
      generalize (ps U n).foldl put1 (ad, f) = R at *
      obtain ⟨E, rf⟩ := R
      dsimp only at *
      obtain ⟨hbe0, hbe1⟩ := hbe
      obtain ⟨had0, had1, _⟩ := had
      have hwr : IntKind.i64.wrap (E - ad) = E - ad := by rw [IntKind.wrap_i64]; omega
      have p4 : wr.cell? ⟨k.p, 4, none⟩ = some (.int .i64 E) := HV.out.1.kk.cell 4 rfl
      have o4 : wr.cell? ⟨O, 4, none⟩ = some (.int .i64 ad) := HV.out.2.1.cell 4 rfl
      have o5 : wr.drew.cell? ⟨O, 5, none⟩ = some (.int .i64 0) := HV.out.2.1.cell 5 rfl
      have of5 : wr.drew.frozen? ⟨O, 5, none⟩ = false := HV.out.2.1.fro 5
      have HPC : Hid (PW w (wr.setCell ⟨O, 5, none⟩ (.int .i64 (E - ad))).drew B k U E rf outs) := ⟨(HV.out.1.setQ HNO.out.1 HNO.out.2 5 _).drew hB⟩
      have HOC : Hid (Bk (wr.setCell ⟨O, 5, none⟩ (.int .i64 (E - ad))).drew O 47 #[.string n, .int .i64 ty, .int .i64 fl, .int .i64 al, .int .i64 ad, .int .i64 (E - ad)]) := ⟨⟨(HV.out.2.1.setC 5 (.int .i64 (E - ad))).hp⟩⟩
      have HTC : Hid (Tw w0 (wr.setCell ⟨O, 5, none⟩ (.int .i64 (E - ad))).drew) := ⟨(HV.out.2.2.setC HV.out.2.1 (.inr (.inr (.inl rfl))) 5 _).bel (Below.refl _ _).drew⟩
      have q4 : (wr.setCell ⟨O, 5, none⟩ (.int .i64 (E - ad))).cell? ⟨k.p, 4, none⟩ = some (.int .i64 E) := HPC.out.kk.cell 4 rfl
      have r4 : (wr.setCell ⟨O, 5, none⟩ (.int .i64 (E - ad))).cell? ⟨O, 4, none⟩ = some (.int .i64 ad) := HOC.out.cell 4 rfl
      go_upto_region 12 with (fail)
      go_region_held3 (fun W => W.cell? ⟨k.p, 4, none⟩ = some (.int .i64 E) ∧ W.cell? ⟨O, 4, none⟩ = some (.int .i64 ad))
        (((try dsimp only); (repeat' apply And.intro) <;> (repeat (first | (with_reducible assumption) | (with_reducible refine cell_dr ?_)))))
        (fail)
      clear p4 o4 o5 of5 q4 r4 HV
      generalize (wr.setCell ⟨O, 5, none⟩ (.int .i64 (E - ad))).drew = v12 at *
      go_upto_region 13 with (fail)
      have HPD : Hid (PW w v12.drew B k U E rf outs) := ⟨HPC.out.drew hB⟩
      have HOD : Hid (Bk v12.drew O 47 #[.string n, .int .i64 ty, .int .i64 fl, .int .i64 al, .int .i64 ad, .int .i64 (E - ad)]) := ⟨⟨HOC.out.hp⟩⟩
      have HTD : Hid (Tw w0 v12.drew) := ⟨HTC.out.bel (Below.refl _ _).drew⟩
      have p3 : v12.drew.cell? ⟨k.p, 3, none⟩ = some (.slice k.oa k.on' k.oc) := HPD.out.kk.cell 3 rfl
      clear HPC HOC HTC
      have HOW : Hid (OwnR 47 6 encO (v12.drew.alloc (.cells (encO (⟨n, ty, fl, al, ad, E - ad⟩ : Ou)).toArray 47)) B (.slice k.oa k.on' k.oc) outs) := ⟨World.ownsRow.alloc HPD.out.o _⟩
      have HBS : Hid (B ≤ (v12.drew.alloc (.cells (encO (⟨n, ty, fl, al, ad, E - ad⟩ : Ou)).toArray 47)).heap.size) := ⟨by
        have h9 := HPD.out.b.size
        rw [hB] at h9
        have : (v12.drew.alloc (.cells (encO (⟨n, ty, fl, al, ad, E - ad⟩ : Ou)).toArray 47)).heap.size = v12.drew.heap.size + 1 := by simp
        omega⟩
      refine wp_region_held_drew (S := fun u => Bk u O 47 #[.string n, .int .i64 ty, .int .i64 fl, .int .i64 al, .int .i64 ad, .int .i64 (E - ad)]) (by kernel_rfl) HOD.out (fun hS => ?_)
      refine wpAnyH_take (i := 0) (v := .pointer (some ⟨k.p, 0, none⟩)) rfl (by kernel_rfl) (by kernel_rfl) (by kernel_rfl) (fun _ _ _ h => h) (Or.inl ⟨by kernel_rfl, fun u hu => by kernel_rfl⟩) hS ?_
      try simp only [Act.put, List.getElem_toArray, List.getElem_cons_succ, List.getElem_cons_zero, List.setIfInBounds_toArray, List.set_cons_zero, List.set_cons_succ]
      refine wpAnyH_take (i := 1) (v := .pointer (some ⟨k.p, 0, none⟩)) rfl (by kernel_rfl) (by kernel_rfl) (by kernel_rfl) (fun _ _ _ h => h) (Or.inl ⟨by kernel_rfl, fun u hu => by kernel_rfl⟩) hS ?_
      try simp only [Act.put, List.getElem_toArray, List.getElem_cons_succ, List.getElem_cons_zero, List.setIfInBounds_toArray, List.set_cons_zero, List.set_cons_succ]
      refine wpAnyH_take (i := 2) (v := .pointer (some ⟨k.p, 0, none⟩)) rfl (by kernel_rfl) (by kernel_rfl) (by kernel_rfl) (fun _ _ _ h => h) (Or.inl ⟨by kernel_rfl, fun u hu => by kernel_rfl⟩) hS ?_
      try simp only [Act.put, List.getElem_toArray, List.getElem_cons_succ, List.getElem_cons_zero, List.setIfInBounds_toArray, List.set_cons_zero, List.set_cons_succ]
      refine wpAnyH_take (i := 3) (v := .pointer (some ⟨k.p, 3, none⟩)) rfl (by kernel_rfl) (by kernel_rfl) (by kernel_rfl) (fun _ _ _ h => h) (Or.inl ⟨by kernel_rfl, fun u hu => by kernel_rfl⟩) hS ?_
      try simp only [Act.put, List.getElem_toArray, List.getElem_cons_succ, List.getElem_cons_zero, List.setIfInBounds_toArray, List.set_cons_zero, List.set_cons_succ]
      refine wpAnyH_take (i := 5) (v := .agg #[.string n, .int .i64 ty, .int .i64 fl, .int .i64 al, .int .i64 ad, .int .i64 (E - ad)]) rfl (by kernel_rfl) (by kernel_rfl) (by kernel_rfl) (fun _ _ _ h => h) (Or.inl ⟨by kernel_rfl, fun u hu => exec_loadV (t := 47) (p := ⟨O, 0, none⟩) rfl (by kernel_rfl) (hu.loadA 0 _ Try.underlying47 sizeO rfl rfl)⟩) hS ?_
      try simp only [Act.put, List.getElem_toArray, List.getElem_cons_succ, List.getElem_cons_zero, List.setIfInBounds_toArray, List.set_cons_zero, List.set_cons_succ]
      refine wpAnyH_ready (rs := [4, 6]) (by kernel_rfl) (by simp) ?_
      refine AllReadyH.cons rfl (fun K hK => ?_) (AllReadyH.cons rfl (fun K hK => ?_) AllReadyH.nil)
      · simp only [List.getElem_toArray, List.getElem_cons_succ, List.getElem_cons_zero]
        refine wp_if (by kernel_rfl) ?_
        refine wp_val (v := .slice k.oa k.on' k.oc) (w' := v12.drew) (exec_loadV (t := 24) (p := ⟨k.p, 3, none⟩) rfl (by kernel_rfl) (load_outs (p3))) ?_
        refine hK.out _ _ HOD.out (fun hS => ?_)
        clear hK
        try simp only [Act.put, List.getElem_toArray, List.getElem_cons_succ, List.getElem_cons_zero, List.setIfInBounds_toArray, List.set_cons_zero, List.set_cons_succ]
        refine wpAnyH_ready (rs := [6]) (by kernel_rfl) (by simp) ?_
        refine AllReadyH.cons rfl (fun K hK => ?_) AllReadyH.nil
        simp only [List.getElem_toArray, List.getElem_cons_succ, List.getElem_cons_zero]
        refine wp_if (by kernel_rfl) ?_
        refine wp_val (v := .slice (some ⟨v12.drew.heap.size, 0, none⟩) 1 1) (w' := (v12.drew.alloc (.cells (encO (⟨n, ty, fl, al, ad, E - ad⟩ : Ou)).toArray 47))) (build_o v12.drew (⟨n, ty, fl, al, ad, E - ad⟩ : Ou) rfl (by kernel_rfl)) ?_
        refine hK.out _ _ (HOD.out.alloc _) (fun hS => ?_)
        clear hK
        try simp only [Act.put, List.getElem_toArray, List.getElem_cons_succ, List.getElem_cons_zero, List.setIfInBounds_toArray, List.set_cons_zero, List.set_cons_succ]
        refine wpAnyH_ready (rs := [7]) (by kernel_rfl) (by simp) ?_
        refine AllReadyH.cons rfl (fun K hK => ?_) AllReadyH.nil
        simp only [List.getElem_toArray, List.getElem_cons_succ, List.getElem_cons_zero]
        refine wp_if (by kernel_rfl) ?_
        refine wp_appO (v := .slice k.oa k.on' k.oc) (L := outs) (y := (⟨n, ty, fl, al, ad, E - ad⟩ : Ou)) rfl (by kernel_rfl) HOW.out (by kernel_rfl) (Bk.new v12.drew _ _) hol HBS.out ?_
        intro v' w7 hr7 hs7
        obtain ⟨xa, xn, xc, hxv⟩ := own_sl hr7
        subst hxv
        have HR7 : Hid _ := ⟨hr7⟩
        have HS7 : Hid (Step v12.drew w7 (.slice k.oa k.on' k.oc) (.slice xa xn xc)) := ⟨step_al ((Below.refl _ _).alloc (Nat.le_refl _) _) hs7⟩
        clear hr7 hs7
        have HO7 : Hid (Bk w7 O 47 #[.string n, .int .i64 ty, .int .i64 fl, .int .i64 al, .int .i64 ad, .int .i64 (E - ad)]) := ⟨HOD.out.turn HS7.out.turn (fun e => HNO.out.1.o _ e rfl)⟩
        have HK7 : Hid (Bk w7 k.p 95 (k.cells E)) := ⟨HPD.out.kk.turn HS7.out.turn (fun e => HPD.out.ne_p.2.2.1 _ e rfl)⟩
        refine hK.out _ _ HO7.out (fun hS => ?_)
        clear hK
        try simp only [Act.put, List.getElem_toArray, List.getElem_cons_succ, List.getElem_cons_zero, List.setIfInBounds_toArray, List.set_cons_zero, List.set_cons_succ]
        refine wpAnyH_take (i := 8) (v := .pointer (some ⟨k.p, 0, none⟩)) rfl (by kernel_rfl) (by kernel_rfl) (by kernel_rfl) (fun _ _ _ h => h) (Or.inl ⟨by kernel_rfl, fun u hu => by kernel_rfl⟩) hS ?_
        try simp only [Act.put, List.getElem_toArray, List.getElem_cons_succ, List.getElem_cons_zero, List.setIfInBounds_toArray, List.set_cons_zero, List.set_cons_succ]
        refine wpAnyH_take (i := 9) (v := .pointer (some ⟨k.p, 3, none⟩)) rfl (by kernel_rfl) (by kernel_rfl) (by kernel_rfl) (fun _ _ _ h => h) (Or.inl ⟨by kernel_rfl, fun u hu => by kernel_rfl⟩) hS ?_
        try simp only [Act.put, List.getElem_toArray, List.getElem_cons_succ, List.getElem_cons_zero, List.setIfInBounds_toArray, List.set_cons_zero, List.set_cons_succ]
        refine wpAnyH_ready (rs := [10]) (by kernel_rfl) (by simp) ?_
        refine AllReadyH.cons rfl (fun K hK => ?_) AllReadyH.nil
        simp only [List.getElem_toArray, List.getElem_cons_succ, List.getElem_cons_zero]
        refine wp_if (by kernel_rfl) ?_
        refine wp_part (g := k.p) (off := 3) (t := 95) (val := .slice xa xn xc) (old := k.cells E) (new := (k.cells E).setIfInBounds 3 (.slice xa xn xc)) rfl (by kernel_rfl) (by kernel_rfl) HK7.out (by kernel_rfl) (Nat.le_of_ble_eq_true (by kernel_rfl)) (oneAll (by kernel_rfl)) (by kernel_rfl) ?_
        rw [← setCell_eq_setRow w7 k.p 3 (k.cells E) 95 (0, 0) _ HK7.out.hp]
        refine hK.out _ _ (HO7.out.setCo ⟨k.p, 3, none⟩ _ HNO.out.1.p) (fun hS => ?_)
        clear hK
        try simp only [Act.put, List.getElem_toArray, List.getElem_cons_succ, List.getElem_cons_zero, List.setIfInBounds_toArray, List.set_cons_zero, List.set_cons_succ]
        refine wpAnyH_done (by kernel_rfl) ?_ _
        have HEND : Hid (PW w (w7.setCell ⟨k.p, 3, none⟩ (.slice xa xn xc)) B { k with oa := xa, on' := xn, oc := xc } U E rf (outs ++ [(⟨n, ty, fl, al, ad, E - ad⟩ : Ou)])) := ⟨HPD.out.app HS7.out HR7.out⟩
        have HTE : Hid (Tw w0 (w7.setCell ⟨k.p, 3, none⟩ (.slice xa xn xc))) := ⟨(HTD.out.trans (tw_step HS7.out HPD.out.o)).setC HK7.out (.inl rfl) 3 _⟩
        go_wp2_with fail
        go_end0
        refine ⟨rfl, xa, xn, xc, ?_, HTE.out⟩
        have e1 : putO U n en f = (⟨n, ty, fl, al, ad, E - ad⟩ : Ou) := by
          unfold putO
          rw [HPUT.out, HAL.out, HAD.out]
          rw [HGO.out]
        rw [e1, HPUT.out]
        exact HEND.out
      · simp only [List.getElem_toArray, List.getElem_cons_succ, List.getElem_cons_zero]
        refine wp_if (by kernel_rfl) ?_
        refine wp_val (v := .slice (some ⟨v12.drew.heap.size, 0, none⟩) 1 1) (w' := (v12.drew.alloc (.cells (encO (⟨n, ty, fl, al, ad, E - ad⟩ : Ou)).toArray 47))) (build_o v12.drew (⟨n, ty, fl, al, ad, E - ad⟩ : Ou) rfl (by kernel_rfl)) ?_
        refine hK.out _ _ (HOD.out.alloc _) (fun hS => ?_)
        clear hK
        try simp only [Act.put, List.getElem_toArray, List.getElem_cons_succ, List.getElem_cons_zero, List.setIfInBounds_toArray, List.set_cons_zero, List.set_cons_succ]
        refine wpAnyH_ready (rs := [4]) (by kernel_rfl) (by simp) ?_
        refine AllReadyH.cons rfl (fun K hK => ?_) AllReadyH.nil
        simp only [List.getElem_toArray, List.getElem_cons_succ, List.getElem_cons_zero]
        refine wp_if (by kernel_rfl) ?_
        refine wp_val (v := .slice k.oa k.on' k.oc) (w' := (v12.drew.alloc (.cells (encO (⟨n, ty, fl, al, ad, E - ad⟩ : Ou)).toArray 47))) (exec_loadV (t := 24) (p := ⟨k.p, 3, none⟩) rfl (by kernel_rfl) (load_outs (cell_al p3 _))) ?_
        refine hK.out _ _ (HOD.out.alloc _) (fun hS => ?_)
        clear hK
        try simp only [Act.put, List.getElem_toArray, List.getElem_cons_succ, List.getElem_cons_zero, List.setIfInBounds_toArray, List.set_cons_zero, List.set_cons_succ]
        refine wpAnyH_ready (rs := [7]) (by kernel_rfl) (by simp) ?_
        refine AllReadyH.cons rfl (fun K hK => ?_) AllReadyH.nil
        simp only [List.getElem_toArray, List.getElem_cons_succ, List.getElem_cons_zero]
        refine wp_if (by kernel_rfl) ?_
        refine wp_appO (v := .slice k.oa k.on' k.oc) (L := outs) (y := (⟨n, ty, fl, al, ad, E - ad⟩ : Ou)) rfl (by kernel_rfl) HOW.out (by kernel_rfl) (Bk.new v12.drew _ _) hol HBS.out ?_
        intro v' w7 hr7 hs7
        obtain ⟨xa, xn, xc, hxv⟩ := own_sl hr7
        subst hxv
        have HR7 : Hid _ := ⟨hr7⟩
        have HS7 : Hid (Step v12.drew w7 (.slice k.oa k.on' k.oc) (.slice xa xn xc)) := ⟨step_al ((Below.refl _ _).alloc (Nat.le_refl _) _) hs7⟩
        clear hr7 hs7
        have HO7 : Hid (Bk w7 O 47 #[.string n, .int .i64 ty, .int .i64 fl, .int .i64 al, .int .i64 ad, .int .i64 (E - ad)]) := ⟨HOD.out.turn HS7.out.turn (fun e => HNO.out.1.o _ e rfl)⟩
        have HK7 : Hid (Bk w7 k.p 95 (k.cells E)) := ⟨HPD.out.kk.turn HS7.out.turn (fun e => HPD.out.ne_p.2.2.1 _ e rfl)⟩
        refine hK.out _ _ HO7.out (fun hS => ?_)
        clear hK
        try simp only [Act.put, List.getElem_toArray, List.getElem_cons_succ, List.getElem_cons_zero, List.setIfInBounds_toArray, List.set_cons_zero, List.set_cons_succ]
        refine wpAnyH_take (i := 8) (v := .pointer (some ⟨k.p, 0, none⟩)) rfl (by kernel_rfl) (by kernel_rfl) (by kernel_rfl) (fun _ _ _ h => h) (Or.inl ⟨by kernel_rfl, fun u hu => by kernel_rfl⟩) hS ?_
        try simp only [Act.put, List.getElem_toArray, List.getElem_cons_succ, List.getElem_cons_zero, List.setIfInBounds_toArray, List.set_cons_zero, List.set_cons_succ]
        refine wpAnyH_take (i := 9) (v := .pointer (some ⟨k.p, 3, none⟩)) rfl (by kernel_rfl) (by kernel_rfl) (by kernel_rfl) (fun _ _ _ h => h) (Or.inl ⟨by kernel_rfl, fun u hu => by kernel_rfl⟩) hS ?_
        try simp only [Act.put, List.getElem_toArray, List.getElem_cons_succ, List.getElem_cons_zero, List.setIfInBounds_toArray, List.set_cons_zero, List.set_cons_succ]
        refine wpAnyH_ready (rs := [10]) (by kernel_rfl) (by simp) ?_
        refine AllReadyH.cons rfl (fun K hK => ?_) AllReadyH.nil
        simp only [List.getElem_toArray, List.getElem_cons_succ, List.getElem_cons_zero]
        refine wp_if (by kernel_rfl) ?_
        refine wp_part (g := k.p) (off := 3) (t := 95) (val := .slice xa xn xc) (old := k.cells E) (new := (k.cells E).setIfInBounds 3 (.slice xa xn xc)) rfl (by kernel_rfl) (by kernel_rfl) HK7.out (by kernel_rfl) (Nat.le_of_ble_eq_true (by kernel_rfl)) (oneAll (by kernel_rfl)) (by kernel_rfl) ?_
        rw [← setCell_eq_setRow w7 k.p 3 (k.cells E) 95 (0, 0) _ HK7.out.hp]
        refine hK.out _ _ (HO7.out.setCo ⟨k.p, 3, none⟩ _ HNO.out.1.p) (fun hS => ?_)
        clear hK
        try simp only [Act.put, List.getElem_toArray, List.getElem_cons_succ, List.getElem_cons_zero, List.setIfInBounds_toArray, List.set_cons_zero, List.set_cons_succ]
        refine wpAnyH_done (by kernel_rfl) ?_ _
        have HEND : Hid (PW w (w7.setCell ⟨k.p, 3, none⟩ (.slice xa xn xc)) B { k with oa := xa, on' := xn, oc := xc } U E rf (outs ++ [(⟨n, ty, fl, al, ad, E - ad⟩ : Ou)])) := ⟨HPD.out.app HS7.out HR7.out⟩
        have HTE : Hid (Tw w0 (w7.setCell ⟨k.p, 3, none⟩ (.slice xa xn xc))) := ⟨(HTD.out.trans (tw_step HS7.out HPD.out.o)).setC HK7.out (.inl rfl) 3 _⟩
        go_wp2_with fail
        go_end0
        refine ⟨rfl, xa, xn, xc, ?_, HTE.out⟩
        have e1 : putO U n en f = (⟨n, ty, fl, al, ad, E - ad⟩ : Ou) := by
          unfold putO
          rw [HPUT.out, HAL.out, HAD.out]
          rw [HGO.out]
        rw [e1, HPUT.out]
        exact HEND.out
end Go.Proofs.Ytojiomkinhnodaa
