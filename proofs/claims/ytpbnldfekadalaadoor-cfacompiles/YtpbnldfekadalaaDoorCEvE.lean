/- The program's event. -/
import Derived.Test.YtpbnldfekadalaaDoorCEvC
import Derived.BigQuiet
namespace Go.Proofs.YtpbnldfekadalaaDoor
open Go.ChangeShapes Go.WideShapes Go.ChangeAt Go.RowKit
set_option linter.unusedVariables false
set_option linter.unusedSimpArgs false

theorem ev_before {s : Es} {v : Ev} (h : v.p < s.p) : evM s v = none := by
  unfold evM goM
  rw [if_pos h]
  cases opE v.s.toList v.a s.t.now.n <;> rfl
theorem ev_none {s : Es} {v : Ev} (h : opE v.s.toList v.a s.t.now.n = none) : evM s v = none := by unfold evM; rw [h]
theorem ev_far {s : Es} {v : Ev} {o : Oq} (ho : opE v.s.toList v.a s.t.now.n = some o) (h : s.p < v.p) (h2 : oneM false s.t (oqA (v.p - s.p)) = none) : evM s v = none := by
  unfold evM goM; rw [ho, if_neg (by omega), if_pos h, h2]
theorem ev_go {s : Es} {v : Ev} {o : Oq} {t' : Tb} (ho : opE v.s.toList v.a s.t.now.n = some o) (h : s.p < v.p) (h2 : oneM false s.t (oqA (v.p - s.p)) = some t') : evM s v = (oneM false t' o).map (fun t2 => ⟨t2, v.p, (s.L ++ [oqA (v.p - s.p)]) ++ [o]⟩) := by
  unfold evM goM
  rw [ho, if_neg (by omega), if_pos h, h2]
  dsimp only
  cases oneM false t' o <;> rfl
theorem ev_here {s : Es} {v : Ev} {o : Oq} (ho : opE v.s.toList v.a s.t.now.n = some o) (h : s.p = v.p) : evM s v = (oneM false s.t o).map (fun t2 => ⟨t2, v.p, s.L ++ [o]⟩) := by
  unfold evM goM
  rw [ho, if_neg (by omega), if_neg (by omega)]
  dsimp only
  cases oneM false s.t o <;> rfl
theorem load_ev {w : World} {b : Nat} {p : Int} {s : ByteArray} {ao : Option Addr} {n c : Nat} (h : Bk w b 27 #[.int .i64 p, .string s, .slice ao n c]) : (loadVar 27 ⟨b, 0, none⟩).run Tryd.prog w = .ok (.agg #[.int .i64 p, .string s, .slice ao n c]) w :=
  run_loadVar_row w b _ _ _ _ _ h.hp Tryd.underlying27 rfl (by rw [show (Tryd.prog.info? 27).map (·.size) = some 3 by kernel_rfl]; rfl)
/-- What stands in memory where an event's op is found. -/
structure S3 (e0 : Nat) (E : Array Value) (cb tb : Nat) (s : Es) (vo : Value) (u : World) : Prop where
  e : Bk u e0 27 E
  c : Bk u cb 47 #[.pointer (some ⟨tb, 0, none⟩), .int .i64 s.p, vo]
  n : u.cell? ⟨tb, 41, none⟩ = some (.int .i64 s.t.now.n)
theorem S3.bel {e0 : Nat} {E : Array Value} {cb tb : Nat} {s : Es} {vo : Value} {u u' : World} (h : S3 e0 E cb tb s vo u) (hb : Below u.heap.size u u') : S3 e0 E cb tb s vo u' :=
  ⟨h.e.bel hb h.e.lt, h.c.bel hb h.c.lt, up_belI h.n hb⟩
/-- Two blocks. -/
def yX (w : World) (a b : Nat) : Nat → Option Obj := fun k => if k = a ∨ k = b then w.heap[k]? else none
theorem KA.two {base : Nat} {w : World} {cb tb : Nat} {s : Es} {vr vk vo : Value} {a b : Nat} {E O : Array Value} (h : KA nX base w cb tb s vr vk vo) (ha : Bk w a 27 E) (hb : Bk w b 64 O) (hn : vo.ownBlock ≠ some b) : KA (yX w a b) base w cb tb s vr vk vo :=
  h.re ⟨fun k c e => (by unfold yX at e; split at e; exact e; cases e),
    (by unfold yX; rw [if_neg]; rintro (e | e); exact bk_ne ha h.bk (by decide) e.symm; exact bk_ne hb h.bk (by decide) e.symm),
    (by unfold yX; rw [if_neg]; rintro (e | e); exact bk_ne ha h.ta.bk (by decide) e.symm; exact bk_ne hb h.ta.bk (by decide) e.symm),
    fun k hk => (by unfold yX; rw [if_neg]; rintro (e | e); subst e; exact own_nbk h.ta.L.2 ha (by decide) hk; subst e; exact own_nbk h.ta.L.2 hb (by decide) hk),
    fun k hk => (by unfold yX; rw [if_neg]; rintro (e | e); subst e; exact own_nbk h.ta.K.2 ha (by decide) hk; subst e; exact own_nbk h.ta.K.2 hb (by decide) hk),
    fun k hk => (by unfold yX; rw [if_neg]; rintro (e | e); subst e; exact own_nbk h.op ha (by decide) hk; subst e; exact hn hk)⟩
theorem KA.two_a {base : Nat} {w u : World} {cb tb : Nat} {s : Es} {vr vk vo : Value} {a b : Nat} {E : Array Value} (h : KA (yX w a b) base u cb tb s vr vk vo) (ha : Bk w a 27 E) : Bk u a 27 E :=
  ⟨h.fy.fx a _ (by unfold yX; rw [if_pos (.inl rfl)]; exact ha.hp)⟩
theorem KA.two_b {base : Nat} {w u : World} {cb tb : Nat} {s : Es} {vr vk vo : Value} {a b : Nat} {E : Array Value} (h : KA (yX w a b) base u cb tb s vr vk vo) (hb : Bk w b 64 E) : Bk u b 64 E :=
  ⟨h.fy.fx b _ (by unfold yX; rw [if_pos (.inr rfl)]; exact hb.hp)⟩
theorem KA.none {Y : Nat → Option Obj} {base : Nat} {w : World} {cb tb : Nat} {s : Es} {vr vk vo : Value} (h : KA Y base w cb tb s vr vk vo) : KA nX base w cb tb s vr vk vo := h.re (Fy.nil _ _ _ _ _ _)

set_option maxRecDepth 20000 in
set_option maxHeartbeats 8000000 in
theorem event_any {base : Nat} {w : World} {cb tb m : Nat} {s : Es} {vr vk vo : Value} (h : KA nX base w cb tb s vr vk vo) (hi : Ei m s) (hm : 2 * m ≤ 80000) (v : Ev) (aa : Option Addr) (ca : Nat) (hv : Ia w aa v.a) (hl : v.a.length ≤ 140737488355328) (hp : -9223372036854775808 ≤ v.p ∧ v.p ≤ 9223372036854775807) (hf : Fz w) (hb0 : 0 < base) :
    Calls Tryd.prog 13 #[.pointer (some ⟨cb, 0, none⟩), .agg #[.int .i64 v.p, .string v.s, .slice aa v.a.length ca]] w fun e w' => e = .returned (.bool (evM s v).isSome) ∧ Below base w w' ∧ ∀ s', evM s v = some s' → ∃ vr' vk' vo', KA nX base w' cb tb s' vr' vk' vo' := by
  have hs0 : 0 ≤ s.p ∧ s.p ≤ 1048576 := by have h1 := hi.at_; have h2 := hi.pl.p0; have h3 := hi.pl.p1; have h4 := hi.pl.s; omega
  obtain ⟨hs0, hs1⟩ := hs0
  obtain ⟨hp0, hp1⟩ := hp
  obtain ⟨R, hR⟩ : ∃ R, evM s v = R := ⟨_, rfl⟩
  obtain ⟨r, hr⟩ : ∃ r, R.isSome = r := ⟨_, rfl⟩
  rw [hR, hr]
  have HR : Hid (evM s v = R ∧ R.isSome = r) := ⟨hR, hr⟩
  clear hR hr
  have hbw : base ≤ w.heap.size := Nat.le_trans h.lo (Nat.le_of_lt h.bk.lt)
  have HB1 : Below w.heap.size w (w.alloc (.cells #[.int .i64 v.p, .string v.s, .slice aa v.a.length ca] 27)) := bel_new _ _ _
  have K1 := h.bel HB1
  have E1 := Bk.new w #[.int .i64 v.p, .string v.s, .slice aa v.a.length ca] 27
  have HI1 : Hid _ := ⟨hv.bel HB1⟩
  have HBb : Hid (Below base w (w.alloc (.cells #[.int .i64 v.p, .string v.s, .slice aa v.a.length ca] 27))) := ⟨HB1.mono hbw⟩
  have HF : Hid _ := ⟨hf⟩
  have HI : Hid _ := ⟨hi⟩
  clear h HB1 hv hf hi
  have e0 := E1.cell 0 rfl
  have k1 := K1.bk.cell 1 rfl
  have HK1 : Hid _ := ⟨K1⟩
  have HE1 : Hid _ := ⟨E1⟩
  clear K1 E1
  go_enter Tryd.func13, Tryd.ntmps13
  go_upto_region 1 with (fail)
  generalize w.alloc (.cells #[.int .i64 v.p, .string v.s, .slice aa v.a.length ca] 27) = W1 at *
  generalize heb : w.heap.size = eb at *
  by_cases hlt : v.p < s.p
  · obtain rfl : R = none := by rw [← HR.out.1]; exact ev_before hlt
    obtain rfl : r = false := HR.out.2.symm
    go_quiet (fail)
    go_wp2
    go_ret
    exact ⟨rfl, cbelow_drewN HBb.out _, fun s' hs => by cases hs⟩
  have f0 := up_belI e0 ((Below.refl _ W1).drew)
  have f1 := up_belI k1 ((Below.refl _ W1).drew)
  go_quiet (fail)
  go_upto_region 3 with (fail)
  have HK2 : Hid _ := ⟨HK1.out.bel (cbelow_drewN (Below.refl _ W1) nq)⟩
  have HE2 : Hid _ := ⟨HE1.out.bel (cbelow_drewN (Below.refl _ W1) nq) HE1.out.lt⟩
  have HI2 : Hid _ := ⟨HI1.out.bel (cbelow_drewN (Below.refl _ W1) nq)⟩
  have HB2 : Hid (Below base w (W1.drewN nq)) := ⟨cbelow_drewN HBb.out nq⟩
  clear HK1 HE1 HI1 HBb e0 k1 f0 f1
  generalize W1.drewN nq = W1 at *
  have HK1 := HK2
  have HE1 := HE2
  have HI1 := HI2
  have HBb := HB2
  clear HK2 HE2 HI2 HB2
  go_cut [5, 6] from 14 to 26 (fun s5 s6 wx => ∃ (bq : Nat) (q : Oq), s5 = .pointer (some ⟨bq, 0, none⟩) ∧ s6 = .bool (opE v.s.toList v.a s.t.now.n).isSome ∧ Hid (Bk wx bq 64 #[.int .i64 q.k, .int .i64 q.r, .int .i64 q.n] ∧ KA nX base wx cb tb s vr vk vo ∧ Bk wx eb 27 #[.int .i64 v.p, .string v.s, .slice aa v.a.length ca] ∧ Below base w wx ∧ (∀ x, opE v.s.toList v.a s.t.now.n = some x → q = x) ∧ vo.ownBlock ≠ some bq))
  case first =>
    have HKd : Hid _ := ⟨HK1.out.bel ((Below.refl _ W1).drew)⟩
    have HEd : Hid _ := ⟨HE1.out.bel ((Below.refl _ W1).drew) HE1.out.lt⟩
    have HId : Hid _ := ⟨HI1.out.bel ((Below.refl _ W1).drew)⟩
    have HBd : Hid (Below base w W1.drew) := ⟨HBb.out.trans (((Below.refl _ W1).drew).mono (by have := HBb.out.size; omega))⟩
    have hno : ∀ k, W1.drew.heap.size ≤ k → vo.ownBlock ≠ some k := fun k hk e => by have := (HKd.out.op.lt _ e).2; omega
    have HNo : Hid _ := ⟨hno⟩
    clear hno
    refine wp_region_held_drew (S := fun u => S3 eb #[.int .i64 v.p, .string v.s, .slice aa v.a.length ca] cb tb s vo u) (by kernel_rfl) ⟨HEd.out, HKd.out.bk, HKd.out.ta.n⟩ (fun hS => ?_)
    generalize W1.drew = V at *
    have hbV : base ≤ V.heap.size := (by have := HBd.out.size; omega)
    refine wpAnyH_take (i := 0) (v := .agg #[.int .i64 v.p, .string v.s, .slice aa v.a.length ca]) rfl (by kernel_rfl) (by kernel_rfl) (by kernel_rfl) (fun _ _ _ h => h) (Or.inl ⟨by kernel_rfl, fun u hu => exec_loadV (t := 27) (p := ⟨eb, 0, none⟩) rfl (by kernel_rfl) (load_ev hu.e)⟩) hS ?_
    simp only [Act.put, List.getElem_toArray, List.getElem_cons_succ, List.getElem_cons_zero, List.setIfInBounds_toArray, List.set_cons_zero, List.set_cons_succ]
    refine wpAnyH_take (i := 1) (v := .pointer (some ⟨cb, 0, none⟩)) rfl (by kernel_rfl) (by kernel_rfl) (by kernel_rfl) (fun _ _ _ h => h) (Or.inl ⟨by kernel_rfl, fun u hu => by kernel_rfl⟩) hS ?_
    simp only [Act.put, List.getElem_toArray, List.getElem_cons_succ, List.getElem_cons_zero, List.setIfInBounds_toArray, List.set_cons_zero, List.set_cons_succ]
    refine wpAnyH_take (i := 2) (v := .pointer (some ⟨cb, 0, none⟩)) rfl (by kernel_rfl) (by kernel_rfl) (by kernel_rfl) (fun _ _ _ h => h) (Or.inl ⟨by kernel_rfl, fun u hu => by kernel_rfl⟩) hS ?_
    simp only [Act.put, List.getElem_toArray, List.getElem_cons_succ, List.getElem_cons_zero, List.setIfInBounds_toArray, List.set_cons_zero, List.set_cons_succ]
    refine wpAnyH_take (i := 3) (v := .pointer (some ⟨cb, 0, none⟩)) rfl (by kernel_rfl) (by kernel_rfl) (by kernel_rfl) (fun _ _ _ h => h) (Or.inl ⟨by kernel_rfl, fun u hu => by kernel_rfl⟩) hS ?_
    simp only [Act.put, List.getElem_toArray, List.getElem_cons_succ, List.getElem_cons_zero, List.setIfInBounds_toArray, List.set_cons_zero, List.set_cons_succ]
    refine wpAnyH_take (i := 4) (v := .pointer (some ⟨tb, 0, none⟩)) rfl (by kernel_rfl) (by kernel_rfl) (by kernel_rfl) (fun _ _ _ h => h) (Or.inl ⟨by kernel_rfl, fun u hu => exec_loadV (t := 45) (p := ⟨cb, 0, none⟩) rfl (by kernel_rfl) (load_ptrT (hu.c.cell 0 rfl))⟩) hS ?_
    simp only [Act.put, List.getElem_toArray, List.getElem_cons_succ, List.getElem_cons_zero, List.setIfInBounds_toArray, List.set_cons_zero, List.set_cons_succ]
    refine wpAnyH_take (i := 5) (v := .pointer (some ⟨tb, 0, none⟩)) rfl (by kernel_rfl) (by kernel_rfl) (by kernel_rfl) (fun _ _ _ h => h) (Or.inl ⟨by kernel_rfl, fun u hu => by kernel_rfl⟩) hS ?_
    simp only [Act.put, List.getElem_toArray, List.getElem_cons_succ, List.getElem_cons_zero, List.setIfInBounds_toArray, List.set_cons_zero, List.set_cons_succ]
    refine wpAnyH_take (i := 6) (v := .pointer (some ⟨tb, 39, none⟩)) rfl (by kernel_rfl) (by kernel_rfl) (by kernel_rfl) (fun _ _ _ h => h) (Or.inl ⟨by kernel_rfl, fun u hu => by kernel_rfl⟩) hS ?_
    simp only [Act.put, List.getElem_toArray, List.getElem_cons_succ, List.getElem_cons_zero, List.setIfInBounds_toArray, List.set_cons_zero, List.set_cons_succ]
    refine wpAnyH_take (i := 7) (v := .pointer (some ⟨tb, 41, none⟩)) rfl (by kernel_rfl) (by kernel_rfl) (by kernel_rfl) (fun _ _ _ h => h) (Or.inl ⟨by kernel_rfl, fun u hu => by kernel_rfl⟩) hS ?_
    simp only [Act.put, List.getElem_toArray, List.getElem_cons_succ, List.getElem_cons_zero, List.setIfInBounds_toArray, List.set_cons_zero, List.set_cons_succ]
    refine wpAnyH_take (i := 8) (v := .int .i64 s.t.now.n) rfl (by kernel_rfl) (by kernel_rfl) (by kernel_rfl) (fun _ _ _ h => h) (Or.inl ⟨by kernel_rfl, fun u hu => exec_loadV (t := 3) (p := ⟨tb, 41, none⟩) rfl (by kernel_rfl) (load_i64 hu.n)⟩) hS ?_
    simp only [Act.put, List.getElem_toArray, List.getElem_cons_succ, List.getElem_cons_zero, List.setIfInBounds_toArray, List.set_cons_zero, List.set_cons_succ]
    have HS0 : Hid _ := ⟨hS⟩
    refine wpAnyH_ready (rs := [9, 13]) (by kernel_rfl) (by simp) ?_
    refine AllReadyH.cons rfl (fun K hK => ?_) (AllReadyH.cons rfl (fun K hK => ?_) AllReadyH.nil)
    · simp only [List.getElem_toArray, List.getElem_cons_succ, List.getElem_cons_zero]
      refine wp_if (by kernel_rfl) ?_
      refine wp_enter (f := 24) (args := #[.agg #[.int .i64 v.p, .string v.s, .slice aa v.a.length ca], .int .i64 s.t.now.n]) (by kernel_rfl) (opOf_any v.p v.s aa ca v.a s.t.now.n V HId.out hl) ?_
      rintro e u ⟨q, he, hq, hb⟩
      subst he
      refine ⟨_, rfl, ?_⟩
      refine hK.out _ _ (hS.bel hb) (fun hS => ?_)
      clear hK
      simp only [Act.put, List.getElem_toArray, List.getElem_cons_succ, List.getElem_cons_zero, List.setIfInBounds_toArray, List.set_cons_zero, List.set_cons_succ]
      refine wpAnyH_take (i := 10) (v := .tuple #[q.val, .bool (opE v.s.toList v.a s.t.now.n).isSome]) rfl (by kernel_rfl) (by kernel_rfl) (by kernel_rfl) (fun _ _ _ h => h) (Or.inl ⟨by kernel_rfl, fun u hu => by kernel_rfl⟩) hS ?_
      simp only [Act.put, List.getElem_toArray, List.getElem_cons_succ, List.getElem_cons_zero, List.setIfInBounds_toArray, List.set_cons_zero, List.set_cons_succ]
      refine wpAnyH_take (i := 11) (v := q.val) rfl (by kernel_rfl) (by kernel_rfl) (by kernel_rfl) (fun _ _ _ h => h) (Or.inl ⟨by kernel_rfl, fun u hu => by kernel_rfl⟩) hS ?_
      simp only [Act.put, List.getElem_toArray, List.getElem_cons_succ, List.getElem_cons_zero, List.setIfInBounds_toArray, List.set_cons_zero, List.set_cons_succ]
      refine wpAnyH_take (i := 12) (v := .bool (opE v.s.toList v.a s.t.now.n).isSome) rfl (by kernel_rfl) (by kernel_rfl) (by kernel_rfl) (fun _ _ _ h => h) (Or.inl ⟨by kernel_rfl, fun u hu => by kernel_rfl⟩) hS ?_
      simp only [Act.put, List.getElem_toArray, List.getElem_cons_succ, List.getElem_cons_zero, List.setIfInBounds_toArray, List.set_cons_zero, List.set_cons_succ]
      refine wpAnyH_ready (rs := [13]) (by kernel_rfl) (by simp) ?_
      refine AllReadyH.cons rfl (fun K hK => ?_) AllReadyH.nil
      simp only [List.getElem_toArray, List.getElem_cons_succ, List.getElem_cons_zero]
      refine wp_if (by kernel_rfl) ?_
      refine wp_val (v := .pointer (some ⟨u.heap.size, 0, none⟩)) (w' := u.alloc (.cells zeroO 64)) (by kernel_rfl) ?_
      have BU : Below u.heap.size u ((u.alloc (.cells zeroO 64)).setRow u.heap.size #[.int .i64 q.k, .int .i64 q.r, .int .i64 q.n]) := (bel_new _ _ _).trans (below_set _ _ _ (Nat.le_refl _))
      have BV : Below V.heap.size V ((u.alloc (.cells zeroO 64)).setRow u.heap.size #[.int .i64 q.k, .int .i64 q.r, .int .i64 q.n]) := hb.trans (BU.mono hb.size)
      have N2 := Bk.new u zeroO 64
      refine hK.out _ _ (hS.bel (bel_new _ _ _)) (fun hS => ?_)
      clear hK
      simp only [Act.put, List.getElem_toArray, List.getElem_cons_succ, List.getElem_cons_zero, List.setIfInBounds_toArray, List.set_cons_zero, List.set_cons_succ]
      refine wpAnyH_ready (rs := [14]) (by kernel_rfl) (by simp) ?_
      refine AllReadyH.cons rfl (fun K hK => ?_) AllReadyH.nil
      simp only [List.getElem_toArray, List.getElem_cons_succ, List.getElem_cons_zero]
      refine wp_if (by kernel_rfl) ?_
      refine wp_part (g := u.heap.size) (off := 0) (val := q.val) (new := #[.int .i64 q.k, .int .i64 q.r, .int .i64 q.n]) rfl (by kernel_rfl) (by kernel_rfl) N2 (by rw [sizeOp]; rfl) (by show 0 + 3 ≤ 3; omega) (val_one _) rfl ?_
      refine hK.out _ _ (HS0.out.bel BV) (fun hS => ?_)
      clear hK
      simp only [Act.put, List.getElem_toArray, List.getElem_cons_succ, List.getElem_cons_zero, List.setIfInBounds_toArray, List.set_cons_zero, List.set_cons_succ]
      refine wpAnyH_take (i := 15) (v := .bool (opE v.s.toList v.a s.t.now.n).isSome) rfl (by kernel_rfl) (by kernel_rfl) (by kernel_rfl) (fun _ _ _ h => h) (Or.inl ⟨by kernel_rfl, fun u hu => by kernel_rfl⟩) hS ?_
      simp only [Act.put, List.getElem_toArray, List.getElem_cons_succ, List.getElem_cons_zero, List.setIfInBounds_toArray, List.set_cons_zero, List.set_cons_succ]
      refine wpAnyH_done (by kernel_rfl) ?_ _
      go_wp2_with fail
      go_meet
      exact ⟨u.heap.size, q, rfl, rfl, ⟨N2.setR _, HKd.out.bel BV, HEd.out.bel BV HEd.out.lt, HBd.out.trans (BV.mono hbV), hq, HNo.out _ hb.size⟩⟩
    · simp only [List.getElem_toArray, List.getElem_cons_succ, List.getElem_cons_zero]
      refine wp_if (by kernel_rfl) ?_
      refine wp_val (v := .pointer (some ⟨V.heap.size, 0, none⟩)) (w' := V.alloc (.cells zeroO 64)) (by kernel_rfl) ?_
      refine hK.out _ _ (hS.bel (bel_new _ _ _)) (fun hS => ?_)
      clear hK
      simp only [Act.put, List.getElem_toArray, List.getElem_cons_succ, List.getElem_cons_zero, List.setIfInBounds_toArray, List.set_cons_zero, List.set_cons_succ]
      refine wpAnyH_ready (rs := [9]) (by kernel_rfl) (by simp) ?_
      refine AllReadyH.cons rfl (fun K hK => ?_) AllReadyH.nil
      simp only [List.getElem_toArray, List.getElem_cons_succ, List.getElem_cons_zero]
      refine wp_if (by kernel_rfl) ?_
      refine wp_enter (f := 24) (args := #[.agg #[.int .i64 v.p, .string v.s, .slice aa v.a.length ca], .int .i64 s.t.now.n]) (by kernel_rfl) (opOf_any v.p v.s aa ca v.a s.t.now.n (V.alloc (.cells zeroO 64)) (HId.out.bel (bel_new _ _ _)) hl) ?_
      rintro e u ⟨q, he, hq, hb⟩
      subst he
      refine ⟨_, rfl, ?_⟩
      have N2 := (Bk.new V zeroO 64).bel hb (Bk.new V zeroO 64).lt
      have B0 : Below V.heap.size V u := (bel_new V zeroO 64).trans (hb.mono (bel_new V zeroO 64).size)
      have BV : Below V.heap.size V (u.setRow V.heap.size #[.int .i64 q.k, .int .i64 q.r, .int .i64 q.n]) := B0.trans (below_set _ _ _ (Nat.le_refl _))
      refine hK.out _ _ (HS0.out.bel B0) (fun hS => ?_)
      clear hK
      simp only [Act.put, List.getElem_toArray, List.getElem_cons_succ, List.getElem_cons_zero, List.setIfInBounds_toArray, List.set_cons_zero, List.set_cons_succ]
      refine wpAnyH_take (i := 10) (v := .tuple #[q.val, .bool (opE v.s.toList v.a s.t.now.n).isSome]) rfl (by kernel_rfl) (by kernel_rfl) (by kernel_rfl) (fun _ _ _ h => h) (Or.inl ⟨by kernel_rfl, fun u hu => by kernel_rfl⟩) hS ?_
      simp only [Act.put, List.getElem_toArray, List.getElem_cons_succ, List.getElem_cons_zero, List.setIfInBounds_toArray, List.set_cons_zero, List.set_cons_succ]
      refine wpAnyH_take (i := 11) (v := q.val) rfl (by kernel_rfl) (by kernel_rfl) (by kernel_rfl) (fun _ _ _ h => h) (Or.inl ⟨by kernel_rfl, fun u hu => by kernel_rfl⟩) hS ?_
      simp only [Act.put, List.getElem_toArray, List.getElem_cons_succ, List.getElem_cons_zero, List.setIfInBounds_toArray, List.set_cons_zero, List.set_cons_succ]
      refine wpAnyH_take (i := 12) (v := .bool (opE v.s.toList v.a s.t.now.n).isSome) rfl (by kernel_rfl) (by kernel_rfl) (by kernel_rfl) (fun _ _ _ h => h) (Or.inl ⟨by kernel_rfl, fun u hu => by kernel_rfl⟩) hS ?_
      simp only [Act.put, List.getElem_toArray, List.getElem_cons_succ, List.getElem_cons_zero, List.setIfInBounds_toArray, List.set_cons_zero, List.set_cons_succ]
      refine wpAnyH_ready (rs := [14]) (by kernel_rfl) (by simp) ?_
      refine AllReadyH.cons rfl (fun K hK => ?_) AllReadyH.nil
      simp only [List.getElem_toArray, List.getElem_cons_succ, List.getElem_cons_zero]
      refine wp_if (by kernel_rfl) ?_
      refine wp_part (g := V.heap.size) (off := 0) (val := q.val) (new := #[.int .i64 q.k, .int .i64 q.r, .int .i64 q.n]) rfl (by kernel_rfl) (by kernel_rfl) N2 (by rw [sizeOp]; rfl) (by show 0 + 3 ≤ 3; omega) (val_one _) rfl ?_
      refine hK.out _ _ (HS0.out.bel BV) (fun hS => ?_)
      clear hK
      simp only [Act.put, List.getElem_toArray, List.getElem_cons_succ, List.getElem_cons_zero, List.setIfInBounds_toArray, List.set_cons_zero, List.set_cons_succ]
      refine wpAnyH_take (i := 15) (v := .bool (opE v.s.toList v.a s.t.now.n).isSome) rfl (by kernel_rfl) (by kernel_rfl) (by kernel_rfl) (fun _ _ _ h => h) (Or.inl ⟨by kernel_rfl, fun u hu => by kernel_rfl⟩) hS ?_
      simp only [Act.put, List.getElem_toArray, List.getElem_cons_succ, List.getElem_cons_zero, List.setIfInBounds_toArray, List.set_cons_zero, List.set_cons_succ]
      refine wpAnyH_done (by kernel_rfl) ?_ _
      go_wp2_with fail
      go_meet
      exact ⟨V.heap.size, q, rfl, rfl, ⟨N2.setR _, HKd.out.bel BV, HEd.out.bel BV HEd.out.lt, HBd.out.trans (BV.mono hbV), hq, HNo.out _ (Nat.le_refl _)⟩⟩
  case rest =>
  obtain ⟨bq, q, rfl, rfl, HC⟩ := hcut
  obtain ⟨W2, hW2⟩ : ∃ W2, W2 = wc := ⟨_, rfl⟩
  subst hW2
  have HBc : Hid (Below base w W2) := ⟨HC.out.2.2.2.1⟩
  obtain ⟨B, hB⟩ : ∃ B, (opE v.s.toList v.a s.t.now.n).isSome = B := ⟨_, rfl⟩
  rw [hB]
  cases B
  · have ho : opE v.s.toList v.a s.t.now.n = none := by
      cases ho : opE v.s.toList v.a s.t.now.n with
      | none => rfl
      | some o => rw [ho] at hB; cases hB
    obtain rfl : R = none := by rw [← HR.out.1]; exact ev_none ho
    obtain rfl : r = false := HR.out.2.symm
    clear hB ho
    go_wp2
    go_ret
    exact ⟨rfl, HBc.out⟩
  obtain ⟨o, ho⟩ : ∃ o, opE v.s.toList v.a s.t.now.n = some o := by
    cases ho : opE v.s.toList v.a s.t.now.n with
    | none => rw [ho] at hB; cases hB
    | some o => exact ⟨o, rfl⟩
  have hqo := HC.out.2.2.2.2.1 o ho
  subst hqo
  have HO : Hid _ := ⟨ho⟩
  have HY : Hid _ := ⟨HC.out.2.1.two HC.out.2.2.1 HC.out.1 HC.out.2.2.2.2.2⟩
  have e0 := HC.out.2.2.1.cell 0 rfl
  have k1 := HC.out.2.1.bk.cell 1 rfl
  clear hB ho
  by_cases hgt : s.p < v.p
  · obtain ⟨d, hd⟩ : ∃ d, v.p - s.p = d := ⟨_, rfl⟩
    have hwd : IntKind.i64.wrap d = d := wrap_in (by omega) (by omega)
    have f0 := up_belI e0 ((Below.refl _ W2).drew)
    have f1 := up_belI k1 ((Below.refl _ W2).drew)
    have HYd : Hid _ := ⟨HY.out.bel ((Below.refl _ W2).drew)⟩
    have HBd : Hid (Below base w W2.drew) := ⟨HBc.out.trans (((Below.refl _ W2).drew).mono (by have := HBc.out.size; omega))⟩
    have HK6 : Hid (Calls Tryd.prog 25 #[.pointer (some ⟨cb, 0, none⟩), .agg #[.int .i64 1, .int .i64 0, .int .i64 d]] W2.drew fun e w' => e = .returned (.bool (oneM false s.t (oqA d)).isSome) ∧ Below base W2.drew w' ∧ ∀ t', oneM false s.t (oqA d) = some t' → ∃ vr' vk' vo', KA (yX W2 eb bq) base w' cb tb ⟨t', s.p, s.L ++ [oqA d]⟩ vr' vk' vo') := ⟨kop_any HYd.out (oqA d) HI.out.pl (by omega) (by have := HI.out.L; omega) (HF.out.bel HBd.out hb0) hb0⟩
    cases h2 : oneM false s.t (oqA d) with
    | none =>
      rw [h2] at HK6
      obtain rfl : R = none := by rw [← HR.out.1]; exact ev_far HO.out hgt (by rw [hd]; exact h2)
      obtain rfl : r = false := HR.out.2.symm
      clear h2
      go_upto_region 6 with (fail)
      go_region_with (go_at_call 25; (with_reducible refine HK6.out.mono ?_); rintro e u ⟨he, hb, hn⟩; subst he; have HU : Hid _ := ⟨hb⟩; clear hb hn)
      all_goals go_wp2
      all_goals go_ret
      all_goals first
        | exact ⟨rfl, HBd.out.trans HU.out⟩
        | exact ⟨rfl, HBd.out.trans HU.out, fun s' hs => (by cases hs)⟩
    | some t' =>
      rw [h2] at HK6
      have hR2 := ev_go HO.out hgt (by rw [hd]; exact h2)
      rw [hd, HR.out.1] at hR2
      have HR2 : Hid _ := ⟨hR2⟩
      have HPl : Hid _ := ⟨oneM_pl HI.out.pl h2⟩
      clear h2 hR2
      go_upto_region 6 with (fail)
      go_cut [48] from 29 to 47 (fun s48 wx => s48 = .bool false ∧ Hid (∃ vr2 vk2 vo2, KA (yX W2 eb bq) base wx cb tb ⟨t', s.p, s.L ++ [oqA d]⟩ vr2 vk2 vo2 ∧ Below base w wx))
      case first =>
        go_region_with (go_at_call 25; (with_reducible refine HK6.out.mono ?_); rintro e u ⟨he, hb, hn⟩; subst he; obtain ⟨vr2, vk2, vo2, hk2⟩ := hn t' rfl; have HU : Hid (Below base w u) := ⟨HBd.out.trans hb⟩; have HK7 : Hid _ := ⟨hk2⟩; clear hb hn hk2)
        all_goals go_wp2_with fail
        all_goals go_meet
        all_goals exact ⟨rfl, ⟨vr2, vk2, vo2, HK7.out, HU.out⟩⟩
      case rest =>
      obtain ⟨rfl, HX⟩ := hcut
      obtain ⟨vr2, vk2, vo2, hk7, hu⟩ := HX.out
      have HK7 : Hid _ := ⟨hk7⟩
      have HU : Hid _ := ⟨hu⟩
      clear hk7 hu HX
      obtain ⟨u, hu2⟩ : ∃ u, u = wc := ⟨_, rfl⟩
      subst hu2
      have e1 := (HK7.out.two_a HC.out.2.2.1).cell 0 rfl
      go_upto_region 9 with (refine wpList_part (g := cb) (off := 1) (val := .int .i64 v.p) (new := #[.pointer (some ⟨tb, 0, none⟩), .int .i64 v.p, vo2]) rfl rfl (by rfl) (by rfl) HK7.out.bk (by rw [sizeInt]; rfl) (by show 1 + 1 ≤ 3; omega) (one_cells _) rfl ?_)
      have K8 := HK7.out.put v.p
      have B8 : Below base w (u.setRow cb #[.pointer (some ⟨tb, 0, none⟩), .int .i64 v.p, vo2]) := HU.out.trans (below_set _ cb _ HK7.out.lo)
      have N8 := K8.two_b HC.out.1
      have q0 := N8.cell 0 rfl
      have q1 := N8.cell 1 rfl
      have q2 := N8.cell 2 rfl
      generalize u.setRow cb #[.pointer (some ⟨tb, 0, none⟩), .int .i64 v.p, vo2] = u8 at *
      have HK9 : Hid (Calls Tryd.prog 25 #[.pointer (some ⟨cb, 0, none⟩), .agg #[.int .i64 q.k, .int .i64 q.r, .int .i64 q.n]] u8 fun e w' => e = .returned (.bool (oneM false t' q).isSome) ∧ Below base u8 w' ∧ ∀ t2, oneM false t' q = some t2 → ∃ vr' vk' vo', KA (yX W2 eb bq) base w' cb tb ⟨t2, v.p, (s.L ++ [oqA d]) ++ [q]⟩ vr' vk' vo') := ⟨kop_any K8 q HPl.out (by omega) (by have := HI.out.L; simp; omega) (HF.out.bel B8 hb0) hb0⟩
      have hrr : (oneM false t' q).isSome = r := by rw [← HR.out.2, HR2.out]; cases oneM false t' q <;> rfl
      rw [hrr] at HK9
      have HB8 : Hid _ := ⟨B8⟩
      clear K8 B8 N8
      go_wp2_with (go_at_call 25; (with_reducible refine HK9.out.mono ?_); rintro e u9 ⟨he, hb, hn⟩; subst he; have HU9 : Hid _ := ⟨hb⟩; have HN9 : Hid _ := ⟨hn⟩; clear hb hn)
      go_ret
      refine ⟨rfl, HB8.out.trans HU9.out, fun s' hs => ?_⟩
      cases h3 : oneM false t' q with
      | none => rw [hs, h3] at HR2; cases HR2.out
      | some t2 =>
        rw [hs, h3] at HR2
        simp only [Option.map_some, Option.some.injEq] at HR2
        obtain ⟨vr9, vk9, vo9, hk9⟩ := HN9.out t2 h3
        rw [HR2.out]
        exact ⟨vr9, vk9, vo9, hk9.none⟩
  · have hpe : s.p = v.p := by omega
    have hR2 := ev_here HO.out hpe
    rw [HR.out.1] at hR2
    have HR2 : Hid _ := ⟨hR2⟩
    have HPl : Hid _ := ⟨HI.out.pl⟩
    have f0 := up_belI e0 ((Below.refl _ W2).drew)
    have f1 := up_belI k1 ((Below.refl _ W2).drew)
    clear hR2
    go_upto_region 6 with (fail)
    go_quiet (fail)
    have HK7 : Hid _ := ⟨HY.out.bel (cbelow_drewN (Below.refl _ W2) nq)⟩
    have HU : Hid (Below base w (W2.drewN nq)) := ⟨cbelow_drewN HBc.out nq⟩
    have e1 := (HK7.out.two_a HC.out.2.2.1).cell 0 rfl
    generalize W2.drewN nq = u at *
    go_upto_region 9 with (refine wpList_part (g := cb) (off := 1) (val := .int .i64 v.p) (new := #[.pointer (some ⟨tb, 0, none⟩), .int .i64 v.p, vo]) rfl rfl (by rfl) (by rfl) HK7.out.bk (by rw [sizeInt]; rfl) (by show 1 + 1 ≤ 3; omega) (one_cells _) rfl ?_)
    have K8 := HK7.out.put v.p
    have B8 : Below base w (u.setRow cb #[.pointer (some ⟨tb, 0, none⟩), .int .i64 v.p, vo]) := HU.out.trans (below_set _ cb _ HK7.out.lo)
    have N8 := K8.two_b HC.out.1
    have q0 := N8.cell 0 rfl
    have q1 := N8.cell 1 rfl
    have q2 := N8.cell 2 rfl
    generalize u.setRow cb #[.pointer (some ⟨tb, 0, none⟩), .int .i64 v.p, vo] = u8 at *
    have HK9 : Hid (Calls Tryd.prog 25 #[.pointer (some ⟨cb, 0, none⟩), .agg #[.int .i64 q.k, .int .i64 q.r, .int .i64 q.n]] u8 fun e w' => e = .returned (.bool (oneM false s.t q).isSome) ∧ Below base u8 w' ∧ ∀ t2, oneM false s.t q = some t2 → ∃ vr' vk' vo', KA (yX W2 eb bq) base w' cb tb ⟨t2, v.p, s.L ++ [q]⟩ vr' vk' vo') := ⟨kop_any K8 q HPl.out (by omega) (by have := HI.out.L; simp; omega) (HF.out.bel B8 hb0) hb0⟩
    have hrr : (oneM false s.t q).isSome = r := by rw [← HR.out.2, HR2.out]; cases oneM false s.t q <;> rfl
    rw [hrr] at HK9
    have HB8 : Hid _ := ⟨B8⟩
    clear K8 B8 N8
    go_wp2_with (go_at_call 25; (with_reducible refine HK9.out.mono ?_); rintro e u9 ⟨he, hb, hn⟩; subst he; have HU9 : Hid _ := ⟨hb⟩; have HN9 : Hid _ := ⟨hn⟩; clear hb hn)
    go_ret
    refine ⟨rfl, HB8.out.trans HU9.out, fun s' hs => ?_⟩
    cases h3 : oneM false s.t q with
    | none => rw [hs, h3] at HR2; cases HR2.out
    | some t2 =>
      rw [hs, h3] at HR2
      simp only [Option.map_some, Option.some.injEq] at HR2
      obtain ⟨vr9, vk9, vo9, hk9⟩ := HN9.out t2 h3
      rw [HR2.out]
      exact ⟨vr9, vk9, vo9, hk9.none⟩
end Go.Proofs.YtpbnldfekadalaaDoor
