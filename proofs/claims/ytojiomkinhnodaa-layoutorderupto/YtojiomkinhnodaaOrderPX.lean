/- Names keep their order, plainly. append of an object to a row of the call's own, within a region that draws. What LayoutOrder asks, plainly. -/
import Derived.Test.YtojiomkinhnodaaYApart
import Derived.Test.YtojiomkinhnodaaYAlone
import Derived.Deep.Upon
import Derived.Deep.RegionHeld3
import Derived.Deep.CutRange
namespace Go.Proofs.Ytojiomkinhnodaa
open Go.ChangeShapes Go.WideShapes Go.ChangeAt Go.RowKit Go.Maps
set_option linter.unusedVariables false
set_option linter.unusedSimpArgs false

def So.kx (x : So) : So := ⟨x.o, x.k, x.s.key⟩
theorem fsts_kx (U : List So) : fsts (U.map So.kx) = (fsts U).map So.kx := by
  induction U using list_snoc2 with
  | h0 => rfl
  | h1 U x ih =>
    rw [List.map_append, List.map_singleton, fsts_snoc, fsts_snoc, ih]
    unfold fstB
    rw [List.any_map]
    have e : (nB x.kx.s.nm ∘ So.kx) = nB x.s.nm := rfl
    rw [e]
    split
    · rfl
    · rw [List.map_append]; rfl
theorem gn_kx (U : List So) (g : Nat) : gn (U.map So.kx) g = (gn U g).map So.kx := by
  unfold gn
  rw [fsts_kx, List.filter_map]
  rfl
theorem ord_kx (U : List So) : ord (U.map So.kx) = (ord U).map So.kx := by
  unfold ord
  rw [List.map_flatMap]
  congr 1
  funext g
  exact gn_kx U g
def soK (l : List (List Sec × List Sym)) : List So := l.zipIdx.flatMap (fun p => sos p.2 p.1.1)
theorem sos_kx (o : Nat) (l : List Sec) : (sos o l).map So.kx = sos o (l.map Sec.key) := by
  induction l using list_snoc2 with
  | h0 => rfl
  | h1 l s ih =>
    rw [sos_snoc, List.map_append, List.map_append, List.map_singleton, List.map_singleton, sos_snoc, ih, List.length_map]
    rfl
theorem socc_kx (l : List Fl) : (socc l).map So.kx = soK (l.map Fl.kf) := by
  induction l using list_snoc2 with
  | h0 => rfl
  | h1 l f ih =>
    rw [socc_snoc, List.map_append, List.map_append, List.map_singleton, ih, sos_kx]
    unfold soK
    rw [List.zipIdx_append, List.flatMap_append]
    simp [Fl.kf]
theorem ord_nms {l L : List Fl} (h : L.map Fl.kf = l.map Fl.kf) : (ord (socc L)).map (·.s.nm) = (ord (socc l)).map (·.s.nm) := by
  have h1 : ∀ U : List So, (ord U).map (·.s.nm) = (ord (U.map So.kx)).map (·.s.nm) := fun U => by
    rw [ord_kx, List.map_map]
    rfl
  rw [h1, h1 (socc l), socc_kx, socc_kx, h]
theorem nms_sub {L L2 : List Fl} {g : Fl} (h : L2.map Fl.kf = L.map Fl.kf) {st st2 : St} (h1 : layS L = some st) (h2 : layS (L2 ++ [g]) = some st2) (d1 : DnB L) (d2 : DnB (L2 ++ [g])) : (st.outs.map (·.nm)).Sublist (st2.outs.map (·.nm)) := by
  rw [(layS_li h1 d1).1.nms, (layS_li h2 d2).1.nms, ← ord_nms h, socc_snoc]
  exact (ord_app _ _).map _
theorem sub_eq {xs bs : List ByteArray} {a i : Nat} (h : (xs.drop a).Sublist (bs.drop i)) (ha : a < xs.length) (hi : i < bs.length) (e : bs[i] = xs[a]) : (xs.drop (a + 1)).Sublist (bs.drop (i + 1)) := by
  rw [List.drop_eq_getElem_cons ha, List.drop_eq_getElem_cons hi] at h
  rw [e] at h
  exact List.cons_sublist_cons.1 h
theorem sub_drop {x y : ByteArray} {s t : List ByteArray} (hne : y ≠ x) (h : (x :: s).Sublist (y :: t)) : (x :: s).Sublist t := by
  cases h with
  | cons _ h => exact h
  | cons_cons _ h => exact absurd rfl hne
theorem sub_ne {xs bs : List ByteArray} {a i : Nat} (h : (xs.drop a).Sublist (bs.drop i)) (ha : a < xs.length) (hi : i < bs.length) (e : bs[i] ≠ xs[a]) : (xs.drop a).Sublist (bs.drop (i + 1)) := by
  rw [List.drop_eq_getElem_cons ha, List.drop_eq_getElem_cons hi] at h
  rw [List.drop_eq_getElem_cons ha]
  exact sub_drop e h
theorem sub_end {xs bs : List ByteArray} {a : Nat} (h : (xs.drop a).Sublist (bs.drop bs.length)) : xs.length ≤ a := by
  rw [List.drop_length] at h
  have := List.sublist_nil.1 h
  exact List.drop_eq_nil_iff.1 this
/-- All of the name n from section k of object i on that have places lie at z or above. -/
def Abv (M : List Fl) (st : St) (n : ByteArray) (z : Int) (i k : Nat) : Prop :=
  ∀ p q, p < M.length → q < (M.getD p Fl.zero).secs.length → ¬ (p < i ∨ p = i ∧ q < k) → (secAt M p q).nm = n → 0 ≤ st.at' p q → z ≤ st.at' p q
theorem Abv.start {M : List Fl} {st : St} {n : ByteArray} : Abv M st n 0 0 0 := fun p q _ _ _ _ h => h
theorem Abv.next {M : List Fl} {st : St} {n : ByteArray} {z : Int} {i k : Nat} (h : Abv M st n z i k) : Abv M st n z i (k + 1) := fun p q hp hq hb => h p q hp hq (by omega)
theorem Abv.row {M : List Fl} {st : St} {n : ByteArray} {z : Int} {i k : Nat} (h : Abv M st n z i k) (hk : (M.getD i Fl.zero).secs.length ≤ k) : Abv M st n z (i + 1) 0 := fun p q hp hq hb => h p q hp hq (by
  intro h2
  rcases h2 with h2 | ⟨rfl, h2⟩ <;> omega)
theorem Abv.put {M : List Fl} {st : St} (hst : layS M = some st) (hd : DnB M) {n : ByteArray} {z : Int} {i k : Nat} (h : Abv M st n z i k) (hi : i < M.length) (hk : k < (M.getD i Fl.zero).secs.length) (hn : (secAt M i k).nm = n) (h0 : 0 ≤ st.at' i k) : z ≤ st.at' i k ∧ Abv M st n (st.at' i k) i (k + 1) := by
  refine ⟨h i k hi hk (by omega) hn h0, fun p q hp hq hb hn2 h2 => ?_⟩
  obtain ⟨hli, hso, hen⟩ := layS_li hst hd
  have hok := layS_ok hst
  by_cases e : p = i ∧ q = k
  · obtain ⟨rfl, rfl⟩ := e; exact Int.le_refl _
  have hah : i < p ∨ i = p ∧ k < q := by omega
  have hin : inD (ord (socc M)) (secAt M i k).nm = true := by
    apply Classical.byContradiction
    intro h3
    have := hli.none' i k fun y hy hin => by
      rintro ⟨rfl, rfl⟩
      obtain ⟨_, _, e2⟩ := so_of hy
      rw [e2] at hin
      exact h3 hin
    omega
  have h4 := hli.row _ (so_in hi hk) _ (so_in hp hq) (hn.trans hn2.symm) hin hah
  have h5 := hso.sz _ (so_in hi hk)
  dsimp only at h4 h5
  omega

theorem bal9 {a w : World} (h : Below a.heap.size a w) (o : Obj) : Below a.heap.size a (w.alloc o) := h.alloc h.size o
theorem btr9 {a w w' : World} (h : Below a.heap.size a w) (h' : Below w.heap.size w w') : Below a.heap.size a w' := h.trans (h'.mono h.size)
theorem run_append_O (w : World) (t ty : TypeId) (ht : Try.prog.underlying t = some (.slice 41)) (base : Nat) (v : Value) (L : List Fl) (hown : OwnR 41 2 encFo w base v L) (q : Nat) (g : Fl) (hq : Bk w q 41 (encFo g).toArray) (hb : L.length + 1 ≤ 2000000) (hbase : base ≤ w.heap.size) :
    ∃ va vc w', (Builtin.append_ #[t, t] ty #[v, .slice (some ⟨q, 0, none⟩) 1 1]).run Try.prog w = .ok (.slice va (L.length + 1) vc) w' ∧ OwnR 41 2 encFo w' base (.slice va (L.length + 1) vc) (L ++ [g]) ∧ Step w w' v (.slice va (L.length + 1) vc) := by
  obtain ⟨i0, hi, hz0, hz1, hz2⟩ := info_parts infoFo
  obtain ⟨v', w', hr, h2, h3, _, h5⟩ := run_append_own_at (P := Try.prog) w base t ty 41 i0 (.agg (encFo Fl.zero).toArray) 2 48 ht hi hz0 hz1 hz2 rfl (by decide) v L.length (L.flatMap encFo) hown ⟨q, 0, none⟩ 1 1 (encFo g) (encFo_len g) (fun j u hj => by
    rw [addr_add, Nat.zero_add]
    exact hq.cell j (by simpa using hj)) (encFo_one g) (by unfold maxLen; omega) (by omega) hbase
  have ho : OwnR 41 2 encFo w' base v' (L ++ [g]) := by
    unfold OwnR
    rw [List.flatMap_append, List.length_append]
    simpa using h2
  obtain ⟨ao, cap, rfl, _⟩ := ho.any encFo_len
  rw [List.length_append, List.length_singleton] at hr h5 ho
  refine ⟨ao, cap, w', hr, ho, ⟨(Turn.refl _ w).grown h3 (fun k _ e => e), fun k hk => ?_⟩⟩
  rcases h5 with e | e
  · rw [e] at hk; exact .inl hk
  · rw [e] at hk
    simp at hk
    right; omega
theorem step_append_O {w : World} {ops : Array Oper} {o : Oper} {a : Act} {K : Act → World → Prop} {Q : Exit → Act → World → Prop} {E : Prop} (hgd : o.guard = none) (s x : Operand) (t : TypeId)
    (ho : o.op = .call { callee := .builtin .append, args := #[s, x], argTypes := #[t, t] }) (ht : Try.prog.underlying t = some (.slice 41)) (base : Nat) (v : Value) (L : List Fl) (hs : a.eval s = v) (hown : OwnR 41 2 encFo w base v L)
    (q : Nat) (g : Fl) (hx : a.eval x = .slice (some ⟨q, 0, none⟩) 1 1) (hq : Bk w q 41 (encFo g).toArray) (hb : L.length + 1 ≤ 2000000) (hbase : base ≤ w.heap.size)
    (h : ∀ va vc w', OwnR 41 2 encFo w' base (.slice va (L.length + 1) vc) (L ++ [g]) → Step w w' v (.slice va (L.length + 1) vc) → K (a.put o.dst (.slice va (L.length + 1) vc)) w') :
    if Region.wanted o (yielded ops a.tmps) = true then Oper.wp Try.prog o a w K Q else E := by
  have hw : Region.wanted o (yielded ops a.tmps) = true := by simp [Region.wanted, hgd]
  rw [if_pos hw]
  obtain ⟨va, vc, w', hr, h2, h3⟩ := run_append_O w t o.type ht base v L hown q g hq hb hbase
  unfold Oper.wp execOp
  simp only [ho, resolve, invoke, builtin, Sem.run_bind, Sem.run_pure, Result.andThen_ok, List.map_toArray, List.map_cons, List.map_nil, hs, hx, hr]
  exact h va vc w' h2 h3

theorem flsB_and {l : List Fl} {f : Fl} (hC : FlsC l) (hf : FlB f ∧ f.secs.length + f.syms.length ≤ 1048576) : FlsB (l ++ [f]) := by
  refine ⟨?_, ?_, ?_, ?_⟩
  · have := hC.n; simp; omega
  · intro x hx
    rcases List.mem_append.1 hx with h | h
    · exact hC.each x h
    · simp at h; subst h; exact hf.1
  · rw [occ_snoc, List.length_append]
    have h1 := occ_len l
    have h2 := hC.sum
    have h3 : (ocs l.length f.syms).length = f.syms.length := by simp [ocs]
    omega
  · rw [List.flatMap_append, List.length_append]
    have h1 := secs_len l
    have h2 := hC.sum
    have h3 : ([f].flatMap (fun x => x.secs)).length = f.secs.length := by simp
    omega
theorem dnB_and {l : List Fl} {f : Fl} {w : World} (hd : DnB l) (hr : RdF w f) : DnB (l ++ [f]) := fun g hg s hs => by
  rcases List.mem_append.1 hg with h | h
  · exact hd g h s hs
  · simp at h; subst h; exact (hr.se s hs).dn
/-- What Place answers. -/
def PlU (L : List Fl) (w : World) (e : Ending) (w' : World) : Prop :=
  ∃ (oa va sa : Option Addr) (on oc vn vc sn sc : Nat) (t1 t2 t3 t4 en E : Int) (bs : Nat → Nat),
    e = .returned (.tuple #[.agg #[.slice oa on oc, .slice va vn vc, .slice sa sn sc, .int .i64 t1, .int .i64 t2, .int .i64 t3, .int .i64 t4, .int .i64 en], .int .i64 E]) ∧ Below w.heap.size w w' ∧
    (E = 0 → ∃ st, layS L = some st ∧ st.outs.length ≤ 2097152 ∧ on = st.outs.length ∧ vn = L.length ∧ AT w' w.heap.size (.slice va vn vc) bs (L.map (·.secs.length)) st.at' ∧ Outs w' oa st.outs)
theorem place_u (ao : Option Addr) (c : Nat) (l : List Fl) (w : World) (hb : FlsB l) (hd : DnB l) (hin : Fls w ao l) : Calls Try.prog 8 #[.slice ao l.length c] w fun e w' => PlU l w e w' := by
  refine (place_any ao c l w hb hd hin).mono ?_
  rintro e w' ⟨hb2, ⟨_, E, hE, rfl⟩ | ⟨st, k, sa, sc, hst, _, rfl, hon, hvn, hat, hou, _⟩⟩
  · exact ⟨none, none, none, 0, 0, 0, 0, 0, 0, 0, 0, 0, 0, 0, E, fun _ => 0, rfl, hb2, fun h => absurd h hE⟩
  · obtain ⟨oo, occ', hov, hO⟩ := outs_of hou
    injection hov with e1 e2 e3
    refine ⟨_, _, _, _, _, _, _, _, _, _, _, _, _, _, _, k.bs, rfl, hb2, fun _ => ⟨st, hst, ?_, hon, hvn, hat, by rw [e1]; exact hO⟩⟩
    have h1 := congrArg List.length (layS_li hst hd).1.nms
    simp only [List.length_map] at h1
    have h2 := ord_len (socc l)
    have h3 : (socc l).length ≤ 2097152 := by rw [socc_len]; exact hb.sum.2
    omega
theorem nms_sub2 {l L A : List Fl} {f : Fl} (hL : L.map Fl.kf = l.map Fl.kf) (hA : A.map Fl.kf = (l ++ [f]).map Fl.kf) {st st2 : St} (h1 : layS L = some st) (h2 : layS A = some st2) (d1 : DnB L) (d2 : DnB A) : (st.outs.map (·.nm)).Sublist (st2.outs.map (·.nm)) := by
  rw [(layS_li h1 d1).1.nms, (layS_li h2 d2).1.nms, ord_nms hL, ord_nms hA, socc_snoc]
  exact (ord_app _ _).map _
/-- What lies in memory while the law looks. -/
structure BSt (w wr : World) (M1 M2 : Nat) (c1 c2 : Array Value) (ta oa1 oa2 va : Option Addr) (vc B : Nat) (A : List Fl) (bs : Nat → Nat) (st1 st2 : St) : Prop where
  b : Below w.heap.size w wr
  m1 : Bk wr M1 28 c1
  m2 : Bk wr M2 28 c2
  f : Fls wr ta A
  a : AT wr B (.slice va A.length vc) bs (A.map (·.secs.length)) st2.at'
  o1 : Outs wr oa1 st1.outs
  o2 : Outs wr oa2 st2.outs
theorem BSt.bel {w wr v : World} {M1 M2 : Nat} {c1 c2 : Array Value} {ta oa1 oa2 va : Option Addr} {vc B : Nat} {A : List Fl} {bs : Nat → Nat} {st1 st2 : St} (h : BSt w wr M1 M2 c1 c2 ta oa1 oa2 va vc B A bs st1 st2) (g : Below wr.heap.size wr v) : BSt w v M1 M2 c1 c2 ta oa1 oa2 va vc B A bs st1 st2 :=
  ⟨h.b.trans (g.mono h.b.size), h.m1.bel g h.m1.lt, h.m2.bel g h.m2.lt, h.f.below g (Nat.le_refl _), h.a.bel g, h.o1.below g (Nat.le_refl _), h.o2.below g (Nat.le_refl _)⟩
theorem BSt.drewN {w wr : World} {M1 M2 : Nat} {c1 c2 : Array Value} {ta oa1 oa2 va : Option Addr} {vc B : Nat} {A : List Fl} {bs : Nat → Nat} {st1 st2 : St} (h : BSt w wr M1 M2 c1 c2 ta oa1 oa2 va vc B A bs st1 st2) (n : Nat) : BSt w (wr.drewN n) M1 M2 c1 c2 ta oa1 oa2 va vc B A bs st1 st2 :=
  h.bel ((Below.refl _ wr).trans ⟨rfl, rfl, rfl, Nat.le_refl _, fun _ _ => rfl⟩)
/-- Both copies are there. -/
structure AppSt (w3 W : World) (L : List Fl) (g : Fl) (va : Option Addr) (vc : Nat) : Prop where
  own : OwnR 41 2 encFo W w3.heap.size (.slice va L.length vc) L
  go : ∀ f ∈ L, GO W f
  gg : GO W g
  b : Below w3.heap.size w3 W
theorem AppSt.bel {w3 W v : World} {L : List Fl} {g : Fl} {va : Option Addr} {vc : Nat} (h : AppSt w3 W L g va vc) (hb : Below W.heap.size W v) : AppSt w3 v L g va vc :=
  ⟨own_bel h.own hb, fun f hf => (h.go f hf).bel hb, h.gg.bel hb, btr9 h.b hb⟩
theorem AppSt.alloc {w3 W : World} {L : List Fl} {g : Fl} {va : Option Addr} {vc : Nat} (h : AppSt w3 W L g va vc) (o : Obj) : AppSt w3 (W.alloc o) L g va vc := h.bel (bal9 (Below.refl _ _) o)
theorem AppSt.drew {w3 W : World} {L : List Fl} {g : Fl} {va : Option Addr} {vc : Nat} (h : AppSt w3 W L g va vc) : AppSt w3 W.drew L g va vc := h.bel (Below.refl _ _).drew
theorem own_low {w : World} {B B' : Nat} {v : Value} {L : List Fl} (h : OwnR 41 2 encFo w B v L) (hb : B' ≤ B) : OwnR 41 2 encFo w B' v L := by
  refine ⟨h.1, ?_⟩
  rcases h.2 with h | ⟨g, cap, cur, hv, hg, r⟩
  · exact .inl h
  · exact .inr ⟨g, cap, cur, hv, Nat.le_trans hb hg, r⟩
theorem app_fin {w3 W w7 : World} {l L : List Fl} {f g : Fl} {va va7 : Option Addr} {vc vc7 : Nat} (h : AppSt w3 W L g va vc) (hL : L.map Fl.kf = l.map Fl.kf) (hg : g.kf = f.kf) (ho : OwnR 41 2 encFo w7 w3.heap.size (.slice va7 (L.length + 1) vc7) (L ++ [g])) (hs : Step W w7 (.slice va L.length vc) (.slice va7 (L.length + 1) vc7)) :
    ∃ A : List Fl, A.length = L.length + 1 ∧ A.map Fl.kf = (l ++ [f]).map Fl.kf ∧ Fls w7 va7 A ∧ Below w3.heap.size w3 w7 := by
  refine ⟨L ++ [g], by simp, by simp [hL, hg], ?_, step_bel h.b h.own (Nat.le_refl _) hs h.b.size⟩
  refine own_flsO (cap := vc7) (by rw [List.length_append, List.length_singleton]; exact ho) (fun x hx => ?_)
  rcases List.mem_append.1 hx with hx | hx
  · exact ((h.go x hx).step h.own hs).fl
  · simp at hx; subst hx; exact (h.gg.step h.own hs).fl
theorem low_of {w3 W : World} (h : Below w3.heap.size w3 W) : w3.heap.size ≤ W.heap.size := h.size
theorem app_b {w3 w7 : World} {l : List Fl} {f : Fl} {N : Nat} {va7 : Option Addr} (h : ∃ A : List Fl, A.length = N ∧ A.map Fl.kf = (l ++ [f]).map Fl.kf ∧ Fls w7 va7 A ∧ Below w3.heap.size w3 w7) : Below w3.heap.size w3 w7 := by
  obtain ⟨_, _, _, _, h⟩ := h
  exact h
theorem nm_get (os : List Ou) (i : Nat) (h : i < os.length) : (os.map (·.nm))[i]'(by simpa using h) = (os.getD i Ou.zero).nm := by simp [h]
/-- One step of the first loop, plainly. -/
def SubAt (o1 o2 : List Ou) (a i : Nat) : Prop := ((o1.map (·.nm)).drop a).Sublist ((o2.map (·.nm)).drop i)
theorem SubAt.eq {o1 o2 : List Ou} {a i : Nat} (h : SubAt o1 o2 a i) (ha : a < o1.length) (hi : i < o2.length) (e : (o2.getD i Ou.zero).nm = (o1.getD a Ou.zero).nm) : SubAt o1 o2 (a + 1) (i + 1) :=
  sub_eq h (by simpa using ha) (by simpa using hi) (by rw [nm_get _ _ hi, nm_get _ _ ha]; exact e)
theorem SubAt.ne {o1 o2 : List Ou} {a i : Nat} (h : SubAt o1 o2 a i) (ha : a < o1.length) (hi : i < o2.length) (e : (o2.getD i Ou.zero).nm ≠ (o1.getD a Ou.zero).nm) : SubAt o1 o2 a (i + 1) :=
  sub_ne h (by simpa using ha) (by simpa using hi) (by rw [nm_get _ _ hi, nm_get _ _ ha]; exact e)
theorem SubAt.fin {o1 o2 : List Ou} {a : Nat} (h : SubAt o1 o2 a o2.length) : o1.length ≤ a := by
  unfold SubAt at h
  have h2 : o2.length = (o2.map (·.nm)).length := by simp
  rw [h2] at h
  have := sub_end h
  simpa using this
theorem out_at {w : World} {ao : Option Addr} {l : List Ou} {i : Nat} (h : Outs w ao l) (hi : i < l.length) : ∃ b off, ao = some ⟨b, off, none⟩ ∧ w.cell? ⟨b, off + i * 6, none⟩ = some (.string (l.getD i Ou.zero).nm) := by
  rcases h with h | ⟨b, off, e, h⟩
  · subst h; simp at hi
  · exact ⟨b, off, e, (h i hi).c0⟩
end Go.Proofs.Ytojiomkinhnodaa
