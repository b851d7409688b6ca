/- When linking fails, plainly; what an entry is. -/
import Derived.Test.YtgoaegembijdcaaRClash
namespace Go.Proofs.Ytgoaegembijdcaa
open Go.ChangeShapes Go.WideShapes Go.ChangeAt Go.RowKit Go.Maps
set_option linter.unusedVariables false
set_option linter.unusedSimpArgs false

theorem numF_nodup : ∀ (ss : List ByteArray) (k : Nat) (m f : ByteArray → Option Int), numF ss k m = some f → (∀ s ∈ ss, (m s).isSome = false) ∧ ss.Nodup
  | [], _, _, _, _ => ⟨(fun s h => by cases h), List.nodup_nil⟩
  | s :: r, k, m, f, h => by
    unfold numF at h
    split at h
    · cases h
    · rename_i hc
      simp only [Bool.not_eq_true, Bool.or_eq_false_iff] at hc
      obtain ⟨h1, h2⟩ := numF_nodup r (k + 1) _ f h
      have key : ∀ t ∈ r, t ≠ s ∧ (m t).isSome = false := fun t ht => by
        have := h1 t ht
        unfold mput at this
        by_cases e : t = s
        · rw [if_pos e] at this; cases this
        · rw [if_neg e] at this; exact ⟨e, this⟩
      refine ⟨fun t ht => ?_, List.nodup_cons.2 ⟨fun hm => (key s hm).1 rfl, h2⟩⟩
      rcases List.mem_cons.1 ht with e | e
      · subst e; exact hc.1
      · exact (key t e).2
theorem secs_nodup {l : List Fl} (h : checkL l = 0) : ∀ f ∈ l, (f.secs.map (·.nm)).Nodup := by
  intro f hf
  have h1 := errF_zero (checkL_each h f hf)
  unfold checkE at h1
  split at h1
  · omega
  · split at h1
    · omega
    · rename_i m hm
      exact (numF_nodup _ _ _ _ hm).2

/-- What the law looks at, of one symbol. -/
def badO (l : List Oc) (x : Oc) : Bool := !(x.s.b == 0) && (decide (1 < nS x.s.nm l) || ((mT x.s.nm l && mO x.s.nm l) || ((empB x.s.sc && x.s.b == 1) && !dD x.s.nm l)))

theorem nS_is (n : ByteArray) (l : List Oc) : nS n l = (l.filter (cnt n)).countP isStr := by
  unfold nS
  rw [List.countP_filter]
  congr 1
  funext x
  unfold cS isStr isDef cnt
  by_cases h : x.s.b = 1
  · rw [h]; simp [Bool.and_comm]
  · have : (x.s.b == 1) = false := by simp [h]
    rw [this]; simp
theorem any_f (p : Oc → Bool) (n : ByteArray) (l : List Oc) : (l.filter (cnt n)).any p = l.any (fun x => cnt n x && p x) := by
  induction l with
  | nil => rfl
  | cons x r ih =>
    rw [List.filter_cons, List.any_cons]
    cases h : cnt n x
    · simp [ih]
    · simp [ih]
theorem cM_is (n : ByteArray) (x : Oc) : cM n x = cnt n x := by unfold cM cnt; rw [Bool.and_comm]
theorem dD_is (n : ByteArray) (l : List Oc) : dD n l = (l.filter (cnt n)).any isDef := by
  rw [any_f]; unfold dD; congr 1; funext x; unfold cD isDef; rw [← cM_is]; rfl
theorem mT_is (n : ByteArray) (l : List Oc) : mT n l = (l.filter (cnt n)).any isTl := by
  rw [any_f]; unfold mT; congr 1; funext x; rw [cM_is]
theorem mO_is (n : ByteArray) (l : List Oc) : mO n l = (l.filter (cnt n)).any isOt := by
  rw [any_f]; unfold mO; congr 1; funext x; rw [cM_is]

theorem cnt_self {x : Oc} (h : ¬ x.s.b = 0) : cnt x.s.nm x = true := by unfold cnt nmB; simp [h]
theorem rows_of {l : List Fl} (R : RowsL l) {x : Oc} (hx : x ∈ occ l) (h : ¬ x.s.b = 0) : (x.s.nm, useOf (occ l) x.s.nm) ∈ rowsU l := (R.u.mem _ _).2 (mU_some.2 ⟨⟨x, hx, cnt_self h⟩, rfl⟩)
theorem of_rows {l : List Fl} (R : RowsL l) {r : ByteArray × Us} (hr : r ∈ rowsU l) : (∃ x ∈ occ l, cnt r.1 x = true) ∧ r.2 = useOf (occ l) r.1 := mU_some.1 ((R.u.mem r.1 r.2).1 hr)

/-- Sections of one name that are unlike: in two objects. -/
theorem clash_is {l : List Fl} (hc : checkL l = 0) : Clash l ↔ ∃ a ∈ l.flatMap (·.secs), ∃ b ∈ l.flatMap (·.secs), Bad2 a b := by
  have gx : ∀ i (h : i < l.length), Sx l i = l[i].secs := fun i h => by unfold Sx; simp [h]
  constructor
  · rintro ⟨i, hi, j, hj, a, ha, b, hb, hB⟩
    have hjl : j < l.length := by omega
    have ga := gx i hi
    have gb := gx j hjl
    have ma : Sy l i a ∈ l[i].secs := by unfold Sy; rw [ga] at ha ⊢; simp [ha]
    have mb : Sy l j b ∈ l[j].secs := by unfold Sy; rw [gb] at hb ⊢; simp [hb]
    exact ⟨_, List.mem_flatMap.2 ⟨l[i], List.getElem_mem hi, ma⟩, _, List.mem_flatMap.2 ⟨l[j], List.getElem_mem hjl, mb⟩, hB⟩
  · rintro ⟨a, ha, b, hb, hB⟩
    obtain ⟨f, hf, hfa⟩ := List.mem_flatMap.1 ha
    obtain ⟨g, hg, hgb⟩ := List.mem_flatMap.1 hb
    obtain ⟨i, hi, rfl⟩ := List.getElem_of_mem hf
    obtain ⟨j, hj, rfl⟩ := List.getElem_of_mem hg
    obtain ⟨p, hp, rfl⟩ := List.getElem_of_mem hfa
    obtain ⟨q, hq, rfl⟩ := List.getElem_of_mem hgb
    have ea : Sy l i p = l[i].secs[p] := by unfold Sy; rw [gx i hi]; simp [hp]
    have eb : Sy l j q = l[j].secs[q] := by unfold Sy; rw [gx j hj]; simp [hq]
    have hsym : Bad2 l[j].secs[q] l[i].secs[p] := ⟨hB.1.symm, hB.2.imp Ne.symm Ne.symm⟩
    rcases Nat.lt_trichotomy i j with h | h | h
    · exact ⟨j, hj, i, h, q, by rw [gx j hj]; exact hq, p, by rw [gx i hi]; exact hp, by rw [ea, eb]; exact hsym⟩
    · subst h
      exfalso
      have hn := secs_nodup hc l[i] (List.getElem_mem hi)
      have e : p = q := by
        have h1 : (l[i].secs.map (·.nm))[p]'(by simpa using hp) = (l[i].secs.map (·.nm))[q]'(by simpa using hq) := by simpa using hB.1
        exact (List.getElem_inj hn).1 h1
      subst e
      rcases hB.2 with h | h <;> exact h rfl
    · exact ⟨i, hi, j, h, p, by rw [gx i hi]; exact hp, q, by rw [gx j hj]; exact hq, by rw [ea, eb]; exact hB⟩

theorem just_bad {l : List Fl} (R : RowsL l) (hl : (occ l).length ≤ 2097152) (hc : checkL l = 0) : (Clash l ∨ ∃ x ∈ occ l, badO (occ l) x = true) ↔ ¬ (AllF l).e = 0 := by
  have hF : (AllF l).e = 0 ↔ faultsL l = [] := by rw [allF_ok]; exact ⟨fun h => h.2, fun h => ⟨hc, h⟩⟩
  rw [hF]
  constructor
  · intro h e
    obtain ⟨f1, f2, f3, f4⟩ := faults_nil e
    rcases h with h | ⟨x, hx, hb⟩
    · obtain ⟨a, ha, b, hb, h1, h2⟩ := (clash_is hc).1 h
      have hm : (a.nm, shOf (l.flatMap (·.secs)) a.nm) ∈ rowsS l := (R.s.mem _ _).2 (by
        have hs := (mS_isSome (l.flatMap (·.secs)) a.nm).2 ⟨a, ha, rfl⟩
        obtain ⟨u, hu⟩ := Option.isSome_iff_exists.1 hs
        rw [hu, mS_some hu])
      have := f4 _ hm
      rw [(shOf_un _ _).2 ⟨a, ha, b, hb, rfl, h1.symm, h2⟩] at this
      cases this
    · unfold badO at hb
      simp only [Bool.and_eq_true, Bool.not_eq_true'] at hb
      obtain ⟨hb0, hb⟩ := hb
      have hb0' : ¬ x.s.b = 0 := by simpa using hb0
      have hr := rows_of R hx hb0'
      have S := useOf_spec (occ l) x.s.nm hl
      have g1 := f1 _ hr
      have g2 := f2 _ hr
      have g3 := f3 _ hr
      simp only [Bool.or_eq_true, Bool.and_eq_true, decide_eq_true_eq] at hb
      rcases hb with hb | hb | hb
      · unfold twice at g1
        have := of_decide_eq_false g1
        dsimp only at this
        rw [S.st, ← nS_is] at this
        omega
      · unfold mixd at g3
        dsimp only at g3
        rw [S.tl, S.ot, ← mT_is, ← mO_is, hb.1, hb.2] at g3
        cases g3
      · unfold undef1 at g2
        dsimp only at g2
        rw [S.wa, S.d, ← dD_is] at g2
        have hw : ((occ l).filter (cnt x.s.nm)).any isWan = true := List.any_eq_true.2 ⟨x, List.mem_filter.2 ⟨hx, cnt_self hb0'⟩, by unfold isWan isDef; rw [hb.1.1, hb.1.2]; rfl⟩
        rw [hw] at g2
        have := hb.2
        simp at this g2
        rw [this] at g2
        cases g2
  · intro h
    apply Classical.byContradiction
    intro hn
    apply h
    have n1 : ¬ Clash l := fun a => hn (.inl a)
    have n2 : ∀ x ∈ occ l, badO (occ l) x = false := fun x hx => by
      cases e : badO (occ l) x
      · rfl
      · exact absurd (.inr ⟨x, hx, e⟩) hn
    have row : ∀ r ∈ rowsU l, twice r.2 = false ∧ undef1 r.2 = false ∧ mixd r.2 = false := by
      intro r hr
      obtain ⟨⟨x, hx, hcx⟩, hu⟩ := of_rows R hr
      obtain ⟨e1, e2⟩ := cnt_nm hcx
      have S := useOf_spec (occ l) r.1 hl
      have hb := n2 x hx
      have hb0 : (x.s.b == 0) = false := by simp [e2]
      unfold badO at hb
      rw [e1, hb0] at hb
      simp only [Bool.not_false, Bool.true_and, Bool.or_eq_false_iff] at hb
      obtain ⟨b1, b2, _⟩ := hb
      rw [hu]
      refine ⟨?_, ?_, ?_⟩
      · unfold twice
        rw [S.st, ← nS_is]
        have := of_decide_eq_false b1
        exact decide_eq_false (by omega)
      · unfold undef1
        rw [S.wa, S.d, ← dD_is]
        cases hw : ((occ l).filter (cnt r.1)).any isWan
        · rfl
        · obtain ⟨y, hy, hyw⟩ := List.any_eq_true.1 hw
          obtain ⟨hy1, hy2⟩ := List.mem_filter.1 hy
          obtain ⟨f1, f2⟩ := cnt_nm hy2
          have hb := n2 y hy1
          have hb0 : (y.s.b == 0) = false := by simp [f2]
          unfold badO at hb
          rw [f1, hb0] at hb
          simp only [Bool.not_false, Bool.true_and, Bool.or_eq_false_iff] at hb
          obtain ⟨_, _, b3⟩ := hb
          unfold isWan isDef at hyw
          simp only [Bool.not_not, Bool.and_eq_true] at hyw
          rw [hyw.1, hyw.2] at b3
          simpa using b3
      · unfold mixd
        rw [S.tl, S.ot, ← mT_is, ← mO_is]
        exact b2
    have nil : ∀ {α : Type} (e : Int) (p : α → Bool) (L : List (ByteArray × α)), (∀ r ∈ L, p r.2 = false) → ftOf e p L = [] := fun e p L h => ftOf_nil.2 h
    unfold faultsL
    rw [nil _ _ _ (fun r hr => (row r hr).1), nil _ _ _ (fun r hr => (row r hr).2.1), nil _ _ _ (fun r hr => (row r hr).2.2), nil _ _ _ (fun r hr => ?_)]
    · rfl
    · have hm := mS_some ((R.s.mem r.1 r.2).1 hr)
      cases e : r.2.un
      · rfl
      · rw [hm] at e
        obtain ⟨a, ha, b, hb, h1, h2, h3⟩ := (shOf_un _ _).1 e
        exact absurd ((clash_is hc).2 ⟨a, ha, b, hb, by rw [h1, h2], h3⟩) n1

/-- What the law looks at, of one entry. -/
def JustE (l : List Fl) (e : En) : Prop := (e.o < 0 ∧ e.k = -1 ∧ dD e.nm (occ l) = false) ∨ ∃ o k : Nat, e.o = o ∧ e.k = k ∧ o < l.length ∧ k < (l.getD o Fl.zero).syms.length ∧ ((l.getD o Fl.zero).syms.getD k Sym.none).nm = e.nm ∧ empB ((l.getD o Fl.zero).syms.getD k Sym.none).sc = false ∧ ((l.getD o Fl.zero).syms.getD k Sym.none).b = e.b ∧ (e.b == 1) = decide (0 < nS e.nm (occ l))
theorem just_ents {l : List Fl} (R : checkL l = 0 → RowsL l) (hl : (occ l).length ≤ 2097152) : ∀ i, i < (AllT l).length → JustE l ((AllT l).getD i En.zero) := by
  intro i hi
  by_cases h0 : (AllF l).e = 0
  · rw [allT_ok l h0] at hi ⊢
    have R := R ((allF_ok l).1 h0).1
    have g : (entsL l).getD i En.zero = (entsL l)[i] := by simp [hi]
    rw [g]
    obtain ⟨⟨n, u⟩, h1, h2⟩ := List.mem_map.1 (List.getElem_mem hi)
    rw [← h2]
    have hu := (R.u.mem n u).1 h1
    have hue := (mU_some.1 hu).2
    have S := useOf_spec (occ l) n hl
    obtain ⟨a1, a2⟩ := ent_is hl hu
    rcases a2 with ⟨d, e⟩ | ⟨d, x, hx, hcx, hdx, e, hsx⟩
    · left
      rw [e]
      refine ⟨by simp, rfl, ?_⟩
      rw [dD_is, ← S.d, ← hue]; exact d
    · right
      rw [a1]
      obtain ⟨f, hf, hs⟩ := mem_occ.1 hx
      obtain ⟨ho, hfo⟩ := List.getElem?_eq_some_iff.1 hf
      have gf : l.getD x.o Fl.zero = f := by simp [ho, hfo]
      obtain ⟨hk, hsk⟩ := List.getElem?_eq_some_iff.1 hs
      have gs : f.syms.getD x.k Sym.none = x.s := by simp [hk, hsk]
      rw [e]
      refine ⟨x.o, x.k, rfl, rfl, ho, by rw [gf]; exact hk, ?_⟩
      rw [gf, gs]
      unfold isDef at hdx
      refine ⟨(cnt_nm hcx).1, by simpa using hdx, rfl, ?_⟩
      rw [nS_is]
      show (x.s.b == 1) = _
      by_cases hp : 0 < ((occ l).filter (cnt n)).countP isStr
      · have := hsx hp
        unfold isStr at this
        simp only [Bool.and_eq_true] at this
        rw [this.2]; simp [hp]
      · rw [decide_eq_false hp]
        cases hb : x.s.b == 1
        · rfl
        · exfalso
          apply hp
          refine List.countP_pos_iff.2 ⟨x, List.mem_filter.2 ⟨hx, hcx⟩, ?_⟩
          unfold isStr isDef
          rw [hdx, hb]; rfl
  · rw [allT_bad l h0] at hi; simp at hi
end Go.Proofs.Ytgoaegembijdcaa
