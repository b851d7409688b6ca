/- What holds of all that is laid. -/
import Derived.Test.YtojiomkinhnodaaYPlain
namespace Go.Proofs.Ytojiomkinhnodaa
open Go.ChangeShapes Go.WideShapes Go.ChangeAt Go.RowKit Go.Maps
set_option linter.unusedVariables false
set_option linter.unusedSimpArgs false

/-- The sections may be. -/
structure SOk (U : List So) : Prop where
  up : U.Pairwise ahd
  al : ∀ x ∈ U, ∃ j : Nat, j ≤ 12 ∧ x.s.al = 2 ^ j
  sz : ∀ x ∈ U, 0 ≤ x.s.sz ∧ x.s.sz ≤ 1073741824
theorem pow_pos2 (j : Nat) : (1 : Int) ≤ 2 ^ j := by
  have : (0 : Int) < 2 ^ j := Int.pow_pos (by decide)
  omega
theorem SOk.al1 {U : List So} (h : SOk U) {x : So} (hx : x ∈ U) : 1 ≤ x.s.al := by
  obtain ⟨j, _, e⟩ := h.al x hx
  rw [e]; exact pow_pos2 j
theorem ps_mem {U : List So} {n : ByteArray} {x : So} : x ∈ ps U n ↔ x ∈ U ∧ x.s.nm = n := by
  unfold ps; rw [List.mem_filter, nB_iff]
theorem maxA_snoc (P : List So) (x : So) : maxA (P ++ [x]) = max (maxA P) x.s.al := by simp [maxA]
theorem maxA_pow (P : List So) (hne : P ≠ []) (h : ∀ x ∈ P, ∃ j : Nat, j ≤ 12 ∧ x.s.al = 2 ^ j) : ∃ j : Nat, j ≤ 12 ∧ maxA P = 2 ^ j := by
  induction P using list_snoc2 with
  | h0 => exact absurd rfl hne
  | h1 P x ih =>
    rw [maxA_snoc]
    obtain ⟨j, hj, e⟩ := h x (by simp)
    by_cases hp : P = []
    · subst hp
      refine ⟨j, hj, ?_⟩
      have := pow_pos2 j
      rw [e]; unfold maxA; simp; omega
    · obtain ⟨i, hi, e2⟩ := ih hp (fun y hy => h y (by simp [hy]))
      rw [e, e2]
      by_cases hij : (2 : Int) ^ i ≤ 2 ^ j
      · exact ⟨j, hj, by omega⟩
      · exact ⟨i, hi, by omega⟩
theorem up_page (n a : Int) (j : Nat) (hj : j ≤ 12) (ha : a = 2 ^ j) (hn : n % 4096 = 0) : upA n a = n := by
  have h1 : 1 ≤ a := by rw [ha]; exact pow_pos2 j
  have e4 : (4096 : Int) = a * 2 ^ (12 - j) := by
    rw [ha, ← Int.pow_add, show j + (12 - j) = 12 by omega]; decide
  have hd : n % a = 0 := by
    have : (4096 : Int) ∣ n := Int.dvd_of_emod_eq_zero hn
    rw [e4] at this
    exact Int.emod_eq_zero_of_dvd (Int.dvd_trans (Int.dvd_mul_right a _) this)
  obtain ⟨h2, h3, h4⟩ := upA_all n a h1
  have h5 : (upA n a - n) % a = 0 := by rw [Int.sub_emod, h4, hd]; simp
  have h6 : (upA n a - n) % a = upA n a - n := Int.emod_eq_of_lt (by omega) (by omega)
  omega

theorem put_fold (P : List So) (e : Int) (f : Nat → Nat → Int) (h1 : ∀ x ∈ P, 1 ≤ x.s.al ∧ 0 ≤ x.s.sz) (h2 : P.Pairwise ahd) :
    e ≤ (P.foldl put1 (e, f)).1 ∧ (∀ i j, (∀ x ∈ P, ¬ (x.o = i ∧ x.k = j)) → (P.foldl put1 (e, f)).2 i j = f i j) ∧
    (∀ x ∈ P, e ≤ (P.foldl put1 (e, f)).2 x.o x.k ∧ (P.foldl put1 (e, f)).2 x.o x.k + x.s.sz ≤ (P.foldl put1 (e, f)).1 ∧ (P.foldl put1 (e, f)).2 x.o x.k % x.s.al = 0) ∧
    P.Pairwise (fun x y => (P.foldl put1 (e, f)).2 x.o x.k + x.s.sz ≤ (P.foldl put1 (e, f)).2 y.o y.k) := by
  induction P using list_snoc2 with
  | h0 => exact ⟨Int.le_refl _, fun _ _ _ => rfl, fun _ h => (by cases h), List.Pairwise.nil⟩
  | h1 P x ih =>
    obtain ⟨q1, q2, q3⟩ := List.pairwise_append.1 h2
    obtain ⟨a1, a2, a3, a4⟩ := ih (fun y hy => h1 y (by simp [hy])) q1
    obtain ⟨hx1, hx2⟩ := h1 x (by simp)
    rw [List.foldl_append]
    simp only [List.foldl_cons, List.foldl_nil]
    generalize P.foldl put1 (e, f) = r at *
    obtain ⟨u1, u2, u3⟩ := upA_all r.1 x.s.al hx1
    have old : ∀ y ∈ P, (put1 r x).2 y.o y.k = r.2 y.o y.k := fun y hy => by
      have := q3 y hy x (by simp)
      unfold ahd at this
      show (if y.o = x.o ∧ y.k = x.k then _ else _) = _
      rw [if_neg (by omega)]
    have new : (put1 r x).2 x.o x.k = upA r.1 x.s.al := by
      show (if x.o = x.o ∧ x.k = x.k then _ else _) = _
      rw [if_pos ⟨rfl, rfl⟩]
    have fin : (put1 r x).1 = upA r.1 x.s.al + x.s.sz := rfl
    refine ⟨by rw [fin]; omega, fun i j hij => ?_, fun y hy => ?_, ?_⟩
    · have e1 := hij x (by simp)
      show (if i = x.o ∧ j = x.k then _ else _) = _
      rw [if_neg (by omega), a2 i j (fun y hy => hij y (by simp [hy]))]
    · rcases List.mem_append.1 hy with hy | hy
      · rw [old y hy, fin]
        obtain ⟨b1, b2, b3⟩ := a3 y hy
        exact ⟨b1, by omega, b3⟩
      · simp at hy
        subst hy
        rw [new, fin]
        exact ⟨by omega, by omega, u3⟩
    · rw [List.pairwise_append]
      refine ⟨?_, by simp, fun y hy z hz => ?_⟩
      · refine List.Pairwise.imp_of_mem ?_ a4
        intro y z hy hz h
        rw [old y hy, old z hz]; exact h
      · simp at hz
        subst hz
        rw [old y hy, new]
        have := (a3 y hy).2.1
        omega
theorem put_bound : ∀ (P : List So) (e : Int) (f : Nat → Nat → Int), (∀ x ∈ P, 1 ≤ x.s.al ∧ x.s.al ≤ 4096 ∧ x.s.sz ≤ 1073741824) → (P.foldl put1 (e, f)).1 ≤ e + P.length * 1073745920
  | [], e, f, _ => by simp
  | x :: P, e, f, h => by
    obtain ⟨h1, h2, h3⟩ := h x (by simp)
    have hb := put_bound P (upA e x.s.al + x.s.sz) (setA f x.o x.k (upA e x.s.al)) (fun y hy => h y (by simp [hy]))
    obtain ⟨u1, u2, u3⟩ := upA_all e x.s.al h1
    show (P.foldl put1 (upA e x.s.al + x.s.sz, setA f x.o x.k (upA e x.s.al))).1 ≤ e + ((P.length + 1 : Nat) : Int) * 1073745920
    have e3 : ((P.length + 1 : Nat) : Int) * 1073745920 = P.length * 1073745920 + 1073745920 := by omega
    rw [e3]
    omega

/-- Where the last one ends. -/
def cend (l : List Ou) : Int := l.foldl (fun _ o => o.ad + o.sz) 4096
theorem cend_snoc (l : List Ou) (o : Ou) : cend (l ++ [o]) = o.ad + o.sz := by simp [cend]
def grpO (o : Ou) : Nat := grp o.ty o.fl
def inD (D : List So) (n : ByteArray) : Bool := D.any (nB n)
theorem inD_snoc (D : List So) (x : So) (n : ByteArray) : inD (D ++ [x]) n = (inD D n || nB n x) := by simp [inD]
structure LI (U D : List So) (st : St) : Prop where
  nms : st.outs.map (·.nm) = D.map (·.s.nm)
  grs : st.outs.map grpO = D.map grpX
  low : 4096 ≤ st.en
  rise : ∀ k (h : k < st.outs.length), cend (st.outs.take k) ≤ st.outs[k].ad ∧ 0 ≤ st.outs[k].sz ∧ (1 ≤ st.outs[k].al ∧ st.outs[k].al ≤ 4096) ∧ st.outs[k].ad % st.outs[k].al = 0
  fin : st.en = cend st.outs
  pow : ∀ o ∈ st.outs, ∃ j : Nat, j ≤ 12 ∧ o.al = 2 ^ j
  put : ∀ y ∈ U, inD D y.s.nm = true → ∃ o ∈ st.outs, o.nm = y.s.nm ∧ o.ad ≤ st.at' y.o y.k ∧ st.at' y.o y.k + y.s.sz ≤ o.ad + o.sz ∧ st.at' y.o y.k % y.s.al = 0
  none' : ∀ i j, (∀ y ∈ U, inD D y.s.nm = true → ¬ (y.o = i ∧ y.k = j)) → st.at' i j = -1
  row : ∀ x ∈ U, ∀ y ∈ U, x.s.nm = y.s.nm → inD D x.s.nm = true → ahd x y → st.at' x.o x.k + x.s.sz ≤ st.at' y.o y.k
  pgs : st.pg = 0 ∨ ∃ o ∈ st.outs, min (grpO o) 3 = st.pg
  head : ∀ p o, (st.outs.filter (fun o => min (grpO o) 3 == p)).head? = some o → o.ad % 4096 = 0
  tls : ∀ o, (st.outs.filter (fun o => grpO o == 3 || grpO o == 4)).head? = some o → o.ad % 4096 = 0
theorem LI.start (U : List So) : LI U [] st0 :=
  ⟨rfl, rfl, by decide, fun k h => by simp [st0] at h, rfl, fun o h => by simp [st0] at h, fun y _ h => by simp [inD] at h, fun _ _ _ => rfl, fun x _ y _ _ h => by simp [inD] at h, .inl rfl, fun p o h => by simp [st0] at h, fun o h => by simp [st0] at h⟩

theorem pair_at {α : Type} {R : α → α → Prop} {P : List α} (hP : P.Pairwise R) {a : α → α → Prop} (hA : P.Pairwise a) (has : ∀ x y, a x y → ¬ a y x) (hir : ∀ x, ¬ a x x) {x y : α} (hx : x ∈ P) (hy : y ∈ P) (h : a x y) : R x y := by
  obtain ⟨i, hi, rfl⟩ := List.getElem_of_mem hx
  obtain ⟨j, hj, rfl⟩ := List.getElem_of_mem hy
  rcases Nat.lt_trichotomy i j with e | e | e
  · exact List.pairwise_iff_getElem.1 hP i j hi hj e
  · subst e; exact absurd h (hir _)
  · exact absurd h (has _ _ (List.pairwise_iff_getElem.1 hA j i hj hi e))
theorem head_snoc {α : Type} {p : α → Bool} {l : List α} {x o : α} (h : ((l ++ [x]).filter p).head? = some o) : (l.filter p).head? = some o ∨ (l.filter p = [] ∧ o = x ∧ p x = true) := by
  rw [List.filter_append] at h
  cases e : l.filter p with
  | nil =>
    right
    rw [e] at h
    cases hp : p x
    · simp [hp] at h
    · simp [hp] at h
      exact ⟨rfl, h.symm, rfl⟩
  | cons a r =>
    left
    rw [e] at h
    simpa using h

theorem LI.step {U D : List So} {st : St} (hU : SOk U) (h : LI U D st) {x : So} (hx : x ∈ fsts U) (hn : inD D x.s.nm = false) (hg : ∀ d ∈ D, grpX d ≤ grpX x) (hg0 : grpX x ≠ 0) : LI U (D ++ [x]) (lay1 U st x) := by
  have hxU : x ∈ U := (fsts_sub U).subset hx
  have hne : ps U x.s.nm ≠ [] := fun e => by
    have : x ∈ ps U x.s.nm := ps_mem.2 ⟨hxU, rfl⟩
    rw [e] at this; cases this
  obtain ⟨j, hj, hal⟩ := maxA_pow (ps U x.s.nm) hne (fun y hy => hU.al y (ps_mem.1 hy).1)
  have hpo := pow_pos2 j
  have hal1 : 1 ≤ (mgo U x.s.nm).al := by show 1 ≤ maxA _; omega
  have hal2 : (mgo U x.s.nm).al ≤ 4096 := by
    show maxA _ ≤ 4096
    rw [hal]
    have h4 : (4096 : Int) = 2 ^ j * 2 ^ (12 - j) := by rw [← Int.pow_add, show j + (12 - j) = 12 by omega]; decide
    have h5 := pow_pos2 (12 - j)
    rw [h4]
    have := Int.mul_le_mul_of_nonneg_left h5 (show (0 : Int) ≤ 2 ^ j by omega)
    omega
  have hgr : grpO { mgo U x.s.nm with ad := 0, sz := 0 } = grpX x := by
    show grp ((ps U x.s.nm).headD default).s.ty ((ps U x.s.nm).headD default).s.fl = _
    rw [fsts_head x hx]; rfl
  unfold lay1
  obtain ⟨e0, he0⟩ : ∃ e0, (if min (grpX x) 3 = st.pg then st.en else upA st.en 4096) = e0 := ⟨_, rfl⟩
  simp only [he0]
  have hen : st.en ≤ e0 := by
    rw [← he0]; split
    · exact Int.le_refl _
    · exact (upA_all st.en 4096 (by decide)).1
  obtain ⟨u1, u2, u3⟩ := upA_all e0 (mgo U x.s.nm).al hal1
  obtain ⟨ad, had⟩ : ∃ ad, upA e0 (mgo U x.s.nm).al = ad := ⟨_, rfl⟩
  rw [had] at u1 u2 u3 ⊢
  have hpg : min (grpX x) 3 ≠ st.pg → ad % 4096 = 0 := fun hp => by
    rw [if_neg hp] at he0
    rw [← had, up_page e0 _ j hj (show (mgo U x.s.nm).al = _ from hal) (by rw [← he0]; exact (upA_all st.en 4096 (by decide)).2.2), ← he0]
    exact (upA_all st.en 4096 (by decide)).2.2
  obtain ⟨p1, p2, p3, p4⟩ := put_fold (ps U x.s.nm) ad st.at' (fun y hy => ⟨hU.al1 (ps_mem.1 hy).1, (hU.sz y (ps_mem.1 hy).1).1⟩) (hU.up.sublist List.filter_sublist)
  have pah : (ps U x.s.nm).Pairwise ahd := hU.up.sublist List.filter_sublist
  generalize (ps U x.s.nm).foldl put1 (ad, st.at') = r at *
  have far : ∀ y ∈ U, y.s.nm ≠ x.s.nm → r.2 y.o y.k = st.at' y.o y.k := fun y hy e => by
    refine p2 _ _ fun z hz => ?_
    rintro ⟨e1, e2⟩
    obtain ⟨z1, z2⟩ := ps_mem.1 hz
    have : z = y := by
      obtain ⟨i, hi, rfl⟩ := List.getElem_of_mem z1
      obtain ⟨k, hk, rfl⟩ := List.getElem_of_mem hy
      rcases Nat.lt_trichotomy i k with q | q | q
      · have := List.pairwise_iff_getElem.1 hU.up i k hi hk q
        unfold ahd at this; omega
      · subst q; rfl
      · have := List.pairwise_iff_getElem.1 hU.up k i hk hi q
        unfold ahd at this; omega
    subst this
    exact e z2
  have isx : ∀ n, nB n x = true ↔ x.s.nm = n := fun n => nB_iff
  have cas : ∀ n, inD (D ++ [x]) n = true → (n = x.s.nm) ∨ (n ≠ x.s.nm ∧ inD D n = true) := fun n hh => by
    rw [inD_snoc, Bool.or_eq_true] at hh
    by_cases e : n = x.s.nm
    · exact .inl e
    · refine .inr ⟨e, ?_⟩
      rcases hh with hh | hh
      · exact hh
      · exact absurd ((isx n).1 hh).symm e
  refine ⟨?_, ?_, ?_, ?_, ?_, ?_, ?_, ?_, ?_, ?_, ?_, ?_⟩
  · simp only [List.map_append, h.nms]; rfl
  · simp only [List.map_append, h.grs]
    show D.map grpX ++ [grpO { mgo U x.s.nm with ad := 0, sz := 0 }] = _
    rw [hgr]; rfl
  · have := h.low; show 4096 ≤ r.1; omega
  · intro k hk
    simp only [List.length_append, List.length_singleton] at hk
    by_cases hk2 : k < st.outs.length
    · simp only [List.getElem_append_left hk2, List.take_append_of_le_length (Nat.le_of_lt hk2)]
      exact h.rise k hk2
    · obtain rfl : k = st.outs.length := by omega
      simp only [List.getElem_append_right (Nat.le_refl _), Nat.sub_self, List.getElem_cons_zero, List.take_append_of_le_length (Nat.le_refl _), List.take_length]
      rw [← h.fin]
      exact ⟨by omega, by omega, ⟨hal1, hal2⟩, u3⟩
  · simp only [cend_snoc]
    omega
  · intro o ho
    rcases List.mem_append.1 ho with ho | ho
    · exact h.pow o ho
    · rw [List.mem_singleton.1 ho]
      exact ⟨j, hj, hal⟩
  · intro y hy hd
    rcases cas _ hd with e | ⟨e, hd2⟩
    · refine ⟨_, List.mem_append_right _ (List.mem_singleton.2 rfl), e.symm, ?_⟩
      obtain ⟨b1, b2, b3⟩ := p3 y (ps_mem.2 ⟨hy, e⟩)
      exact ⟨b1, by dsimp only; omega, b3⟩
    · obtain ⟨o, ho, h2⟩ := h.put y hy hd2
      refine ⟨o, List.mem_append_left _ ho, ?_⟩
      dsimp only
      rw [far y hy e]
      exact h2
  · intro i k hik
    dsimp only
    rw [p2 i k (fun z hz => by
      obtain ⟨z1, z2⟩ := ps_mem.1 hz
      refine hik z z1 ?_
      rw [inD_snoc, (isx _).2 z2.symm, Bool.or_true])]
    exact h.none' i k fun y hy hd => hik y hy (by rw [inD_snoc, hd]; rfl)
  · intro a ha b hb e hd hab
    dsimp only
    rcases cas _ hd with e1 | ⟨e1, hd2⟩
    · exact pair_at p4 pah (fun _ _ => ahd_asym) (fun _ => ahd_irr) (ps_mem.2 ⟨ha, e1⟩) (ps_mem.2 ⟨hb, e ▸ e1⟩) hab
    · rw [far a ha e1, far b hb (e ▸ e1)]
      exact h.row a ha b hb e hd2 hab
  · exact .inr ⟨_, List.mem_append_right _ (List.mem_singleton.2 rfl), by show min (grpO { mgo U x.s.nm with ad := 0, sz := 0 }) 3 = _; rw [hgr]⟩
  · intro p o ho
    rcases head_snoc ho with h2 | ⟨h2, rfl, h3⟩
    · exact h.head p o h2
    · show ad % 4096 = 0
      refine hpg fun e => ?_
      have e3 : min (grpX x) 3 = p := by
        have h4 : (min (grpX x) 3 == p) = true := by rw [← hgr]; exact h3
        simpa using h4
      rcases h.pgs with e4 | ⟨o, ho2, e4⟩
      · omega
      · rw [List.filter_eq_nil_iff] at h2
        exact h2 o ho2 (by simp; omega)
  · intro o ho
    rcases head_snoc ho with h2 | ⟨h2, rfl, h3⟩
    · exact h.tls o h2
    · show ad % 4096 = 0
      refine hpg fun e => ?_
      have e3 : grpX x = 3 ∨ grpX x = 4 := by
        have : (grpO { mgo U x.s.nm with ad := 0, sz := 0 } == 3 || grpO { mgo U x.s.nm with ad := 0, sz := 0 } == 4) = true := h3
        rw [hgr] at this
        simpa using this
      rcases h.pgs with e4 | ⟨o, ho2, e4⟩
      · omega
      · rw [List.filter_eq_nil_iff] at h2
        refine h2 o ho2 ?_
        have : grpO o ∈ D.map grpX := by rw [← h.grs]; exact List.mem_map.2 ⟨o, ho2, rfl⟩
        obtain ⟨d, hd, e5⟩ := List.mem_map.1 this
        have := hg d hd
        simp
        omega
/-- All of them are laid. -/
theorem LI.all {U : List So} (hU : SOk U) : ∀ (L D : List So) (st : St), LI U D st → (∀ x ∈ L, x ∈ fsts U ∧ grpX x ≠ 0) → ((D ++ L).map (·.s.nm)).Nodup → (D ++ L).Pairwise (fun x y => grpX x ≤ grpX y) → LI U (D ++ L) (layG U st L)
  | [], D, st, h, _, _, _ => by simpa [layG] using h
  | x :: L, D, st, h, h1, h2, h3 => by
    have e : D ++ x :: L = (D ++ [x]) ++ L := by simp
    have hn : inD D x.s.nm = false := by
      cases hh : inD D x.s.nm
      · rfl
      · unfold inD at hh
        rw [List.any_eq_true] at hh
        obtain ⟨d, hd, hdn⟩ := hh
        rw [List.map_append, List.nodup_append] at h2
        exact absurd (nB_iff.1 hdn) (h2.2.2 _ (List.mem_map.2 ⟨d, hd, rfl⟩) _ (by simp))
    have hg : ∀ d ∈ D, grpX d ≤ grpX x := fun d hd => (List.pairwise_append.1 h3).2.2 d hd x (by simp)
    rw [e]
    rw [e] at h2 h3
    exact LI.all hU L (D ++ [x]) (lay1 U st x) (h.step hU (h1 x (by simp)).1 hn hg (h1 x (by simp)).2) (fun y hy => h1 y (by simp [hy])) h2 h3
theorem LI.done {U : List So} (hU : SOk U) : LI U (ord U) (layG U st0 (ord U)) := by
  have := LI.all hU (ord U) [] st0 (LI.start U) (fun x hx => mem_ord.1 hx) (by simpa using ord_nd U) (by simpa using ord_grp U)
  simpa using this
theorem cend_le {outs : List Ou} (h : ∀ k (h : k < outs.length), cend (outs.take k) ≤ outs[k].ad ∧ 0 ≤ outs[k].sz) : ∀ k, k ≤ outs.length → 4096 ≤ cend (outs.take k) ∧ ∀ i (hi : i < outs.length), i < k → 4096 ≤ outs[i].ad ∧ 0 ≤ outs[i].sz ∧ outs[i].ad + outs[i].sz ≤ cend (outs.take k)
  | 0, _ => ⟨by simp [cend], fun i _ hi => by omega⟩
  | k + 1, hk => by
    obtain ⟨h1, h2⟩ := cend_le h k (by omega)
    obtain ⟨h3, h4⟩ := h k (by omega)
    rw [List.take_succ_eq_append_getElem (by omega), cend_snoc]
    refine ⟨by omega, fun i hi hik => ?_⟩
    by_cases e : i = k
    · subst e; exact ⟨by omega, h4, by omega⟩
    · obtain ⟨a, b, c⟩ := h2 i hi (by omega)
      exact ⟨a, b, by omega⟩
theorem LI.each {U D : List So} {st : St} (h : LI U D st) : ∀ o ∈ st.outs, 4096 ≤ o.ad ∧ 0 ≤ o.sz ∧ o.ad + o.sz ≤ st.en := by
  intro o ho
  obtain ⟨i, hi, rfl⟩ := List.getElem_of_mem ho
  have := (cend_le (fun k hk => ⟨(h.rise k hk).1, (h.rise k hk).2.1⟩) st.outs.length (Nat.le_refl _)).2 i hi hi
  rw [List.take_length, ← h.fin] at this
  exact this
end Go.Proofs.Ytojiomkinhnodaa
