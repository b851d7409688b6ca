/- Where everything goes, plainly. -/
import Derived.Test.YtojiomkinhnodaaRChk
namespace Go.Proofs.Ytojiomkinhnodaa
open Go.ChangeShapes Go.WideShapes Go.ChangeAt Go.RowKit Go.Maps
set_option linter.unusedVariables false
set_option linter.unusedSimpArgs false

/-- A section of the image; a section in its place; a segment. -/
structure Ou where
  nm : ByteArray
  ty : Int
  fl : Int
  al : Int
  ad : Int
  sz : Int
def Ou.zero : Ou := ⟨ByteArray.empty, 0, 0, 0, 0, 0⟩
instance : Inhabited Ou := ⟨Ou.zero⟩
structure So where
  o : Nat
  k : Nat
  s : Sec
instance : Inhabited So := ⟨⟨0, 0, Sec.zero⟩⟩
structure Sg where
  ty : Int
  fl : Int
  ad : Int
  off : Int
  sz : Int
  me : Int
  al : Int
def Sg.zero : Sg := ⟨0, 0, 0, 0, 0, 0, 0⟩
instance : Inhabited Sg := ⟨Sg.zero⟩

def sos (o : Nat) (l : List Sec) : List So := l.zipIdx.map (fun p => ⟨o, p.2, p.1⟩)
def socc (l : List Fl) : List So := l.zipIdx.flatMap (fun p => sos p.2 p.1.secs)
theorem sos_snoc (o : Nat) (l : List Sec) (s : Sec) : sos o (l ++ [s]) = sos o l ++ [⟨o, l.length, s⟩] := by simp [sos, List.zipIdx_append]
theorem socc_snoc (l : List Fl) (f : Fl) : socc (l ++ [f]) = socc l ++ sos l.length f.secs := by simp [socc, List.zipIdx_append]
theorem mem_sos {o : Nat} {l : List Sec} {x : So} : x ∈ sos o l ↔ x.o = o ∧ l[x.k]? = some x.s := by
  unfold sos
  rw [List.mem_map]
  constructor
  · rintro ⟨⟨s, k⟩, h, rfl⟩
    exact ⟨rfl, List.mem_zipIdx_iff_getElem?.1 h⟩
  · rintro ⟨rfl, h⟩
    exact ⟨(x.s, x.k), List.mem_zipIdx_iff_getElem?.2 h, rfl⟩
theorem mem_socc {l : List Fl} {x : So} : x ∈ socc l ↔ ∃ f, l[x.o]? = some f ∧ f.secs[x.k]? = some x.s := by
  unfold socc
  rw [List.mem_flatMap]
  constructor
  · rintro ⟨⟨f, o⟩, h, hx⟩
    obtain ⟨e, h2⟩ := mem_sos.1 hx
    subst e
    exact ⟨f, List.mem_zipIdx_iff_getElem?.1 h, h2⟩
  · rintro ⟨f, h, h2⟩
    exact ⟨(f, x.o), List.mem_zipIdx_iff_getElem?.2 h, mem_sos.2 ⟨rfl, h2⟩⟩

/-- Ahead of: by objects, by sections. -/
def ahd (x y : So) : Prop := x.o < y.o ∨ x.o = y.o ∧ x.k < y.k
theorem ahd_irr {x : So} : ¬ ahd x x := by unfold ahd; omega
theorem ahd_asym {x y : So} (h : ahd x y) : ¬ ahd y x := by unfold ahd at *; omega
theorem sos_up (o : Nat) (l : List Sec) : (sos o l).Pairwise ahd := by
  unfold sos
  rw [List.pairwise_map, List.pairwise_iff_getElem]
  intro i j hi hj hij
  simp
  right
  exact ⟨rfl, hij⟩
theorem list_snoc2 {α : Type} {p : List α → Prop} (l : List α) (h0 : p []) (h1 : ∀ l x, p l → p (l ++ [x])) : p l := by
  have : ∀ r : List α, p r.reverse := by
    intro r
    induction r with
    | nil => exact h0
    | cons x r ih => rw [List.reverse_cons]; exact h1 _ _ ih
  have h := this l.reverse
  rwa [List.reverse_reverse] at h
theorem socc_up (l : List Fl) : (socc l).Pairwise ahd := by
  induction l using list_snoc2 with
  | h0 => exact List.Pairwise.nil
  | h1 l f ih =>
    rw [socc_snoc, List.pairwise_append]
    refine ⟨ih, sos_up _ _, fun x hx y hy => ?_⟩
    obtain ⟨g, h1, _⟩ := mem_socc.1 hx
    obtain ⟨e, _⟩ := mem_sos.1 hy
    have := (List.getElem?_eq_some_iff.1 h1).1
    left; omega

def nB (n : ByteArray) (x : So) : Bool := nmB x.s.nm n
theorem nB_iff {n : ByteArray} {x : So} : nB n x = true ↔ x.s.nm = n := by simp [nB, nmB]
/-- All of one name. -/
def ps (U : List So) (n : ByteArray) : List So := U.filter (nB n)
theorem ps_snoc_same (U : List So) (x : So) : ps (U ++ [x]) x.s.nm = ps U x.s.nm ++ [x] := by
  have : nB x.s.nm x = true := nB_iff.2 rfl
  simp [ps, List.filter_append, this]
theorem ps_snoc_other (U : List So) (x : So) {n : ByteArray} (h : n ≠ x.s.nm) : ps (U ++ [x]) n = ps U n := by
  have : nB n x = false := by cases e : nB n x; · rfl
                              · exact absurd (nB_iff.1 e).symm h
  simp [ps, List.filter_append, this]
def maxA (l : List So) : Int := l.foldl (fun a y => max a y.s.al) 0
/-- What those of one name become, but the place. -/
def mgo (U : List So) (n : ByteArray) : Ou := ⟨n, ((ps U n).headD default).s.ty, ((ps U n).headD default).s.fl, maxA (ps U n), 0, 0⟩
def mixB (s : Sec) : Bool := (bits .and .i64 s.fl 6 == 6) && !(bits .and .i64 s.fl 1025 == 0)
/-- One section more may not be. -/
def badX (U : List So) (x : So) : Bool := mixB x.s || (!(x.s.ty == ((ps (U ++ [x]) x.s.nm).headD default).s.ty) || !(x.s.fl == ((ps (U ++ [x]) x.s.nm).headD default).s.fl))
/-- All may be. -/
def okG : List So → List So → Bool
  | _, [] => true
  | U, x :: r => !badX U x && okG (U ++ [x]) r
theorem okG_app : ∀ (V U W : List So), okG U (V ++ W) = (okG U V && okG (U ++ V) W)
  | [], U, W => by simp [okG]
  | x :: V, U, W => by
    show (!badX U x && okG (U ++ [x]) (V ++ W)) = ((!badX U x && okG (U ++ [x]) V) && okG (U ++ x :: V) W)
    rw [okG_app V, Bool.and_assoc]
    simp
theorem head_pre {U V : List So} {n : ByteArray} (h : ps U n ≠ []) : (ps (U ++ V) n).headD default = (ps U n).headD default := by
  unfold ps at *
  rw [List.filter_append]
  cases e : U.filter (nB n) with
  | nil => exact absurd e h
  | cons a r => simp
theorem okG_same : ∀ (V U : List So), okG U V = true → ∀ x ∈ V, mixB x.s = false ∧ x.s.ty = ((ps (U ++ V) x.s.nm).headD default).s.ty ∧ x.s.fl = ((ps (U ++ V) x.s.nm).headD default).s.fl
  | [], _, _, _, h => by cases h
  | y :: V, U, h, x, hx => by
    unfold okG at h
    simp only [Bool.and_eq_true, Bool.not_eq_true'] at h
    obtain ⟨h1, h2⟩ := h
    have e : U ++ y :: V = (U ++ [y]) ++ V := by simp
    rw [e]
    rcases List.mem_cons.1 hx with rfl | hx
    · unfold badX at h1
      simp only [Bool.or_eq_false_iff, Bool.not_eq_false', beq_iff_eq] at h1
      have hne : ps (U ++ [x]) x.s.nm ≠ [] := by rw [ps_snoc_same]; simp
      rw [head_pre hne]
      exact ⟨h1.1, h1.2.1, h1.2.2⟩
    · exact okG_same V (U ++ [y]) h2 x hx

/-- The first one of each name. -/
def fstB (acc : List So) (x : So) : List So := if acc.any (nB x.s.nm) then acc else acc ++ [x]
def fsts (U : List So) : List So := U.foldl fstB []
theorem fsts_snoc (U : List So) (x : So) : fsts (U ++ [x]) = fstB (fsts U) x := by simp [fsts]
theorem fstB_pre (acc : List So) (x : So) : ∃ r, fstB acc x = acc ++ r := by
  unfold fstB
  split
  · exact ⟨[], by simp⟩
  · exact ⟨[x], rfl⟩
theorem fold_pre : ∀ (V acc : List So), ∃ r, V.foldl fstB acc = acc ++ r
  | [], acc => ⟨[], by simp⟩
  | x :: V, acc => by
    obtain ⟨r, h⟩ := fstB_pre acc x
    obtain ⟨s, h2⟩ := fold_pre V (acc ++ r)
    exact ⟨r ++ s, by rw [List.foldl_cons, h, h2, List.append_assoc]⟩
theorem fsts_app (U V : List So) : ∃ r, fsts (U ++ V) = fsts U ++ r := by
  unfold fsts
  rw [List.foldl_append]
  exact fold_pre V _
theorem fsts_any (U : List So) (n : ByteArray) : (fsts U).any (nB n) = U.any (nB n) := by
  induction U using list_snoc2 with
  | h0 => rfl
  | h1 U x ih =>
    rw [fsts_snoc, List.any_append]
    unfold fstB
    by_cases e : (fsts U).any (nB x.s.nm) = true
    · rw [if_pos e, ih]
      cases h : nB n x
      · simp [h]
      · have := nB_iff.1 h
        subst this
        rw [← ih, e]; rfl
    · rw [if_neg e, List.any_append, ih]
theorem fsts_sub (U : List So) : (fsts U).Sublist U := by
  induction U using list_snoc2 with
  | h0 => exact List.Sublist.refl _
  | h1 U x ih =>
    rw [fsts_snoc]
    unfold fstB
    split
    · exact ih.trans (List.sublist_append_left _ _)
    · exact ih.append (List.Sublist.refl _)
theorem fsts_nd (U : List So) : ((fsts U).map (·.s.nm)).Nodup := by
  induction U using list_snoc2 with
  | h0 => exact List.nodup_nil
  | h1 U x ih =>
    rw [fsts_snoc]
    unfold fstB
    split
    · exact ih
    · rename_i h
      rw [List.map_append, List.nodup_append]
      refine ⟨ih, by simp, fun a ha b hb => ?_⟩
      simp at hb
      subst hb
      rintro rfl
      obtain ⟨y, hy, e⟩ := List.mem_map.1 ha
      exact h (List.any_eq_true.2 ⟨y, hy, nB_iff.2 e⟩)
theorem any_ps {U : List So} {n : ByteArray} : U.any (nB n) = true ↔ ps U n ≠ [] := by
  unfold ps
  rw [Ne, List.filter_eq_nil_iff, List.any_eq_true]
  constructor
  · rintro ⟨x, h1, h2⟩ h
    exact h x h1 h2
  · intro h
    apply Classical.byContradiction
    intro h2
    exact h fun x hx e => h2 ⟨x, hx, e⟩
theorem fsts_head {U : List So} : ∀ x ∈ fsts U, (ps U x.s.nm).headD default = x := by
  induction U using list_snoc2 with
  | h0 => intro x hx; cases hx
  | h1 U y ih =>
    intro x hx
    rw [fsts_snoc] at hx
    have key : x ∈ fsts U → (ps (U ++ [y]) x.s.nm).headD default = x := fun h => by
      rw [head_pre (any_ps.1 (by rw [← fsts_any]; exact List.any_eq_true.2 ⟨x, h, nB_iff.2 rfl⟩))]
      exact ih x h
    unfold fstB at hx
    split at hx
    · exact key hx
    · rename_i h
      rcases List.mem_append.1 hx with h2 | h2
      · exact key h2
      · simp at h2
        subst h2
        rw [ps_snoc_same]
        have : ps U x.s.nm = [] := by
          apply Classical.byContradiction
          intro h3
          rw [fsts_any] at h
          exact h (any_ps.2 h3)
        rw [this]; rfl
theorem fsts_up {U : List So} (h : U.Pairwise ahd) : (fsts U).Pairwise ahd := h.sublist (fsts_sub U)

/-- Its group; 0: it is not laid out. -/
def grp (ty fl : Int) : Nat :=
  if bits .and .i64 fl 2 == 0 then 0
  else if bits .and .i64 fl 1029 == 0 then 1
  else if !(bits .and .i64 fl 4 == 0) then 2
  else if !(bits .and .i64 fl 1024 == 0) && !(ty == 8) then 3
  else if !(bits .and .i64 fl 1024 == 0) then 4
  else if ty == 14 then 5 else if ty == 15 then 6 else if !(ty == 8) then 7 else 8
theorem grp_le (ty fl : Int) : grp ty fl ≤ 8 := by
  unfold grp
  repeat' split
  all_goals omega
def grpX (x : So) : Nat := grp x.s.ty x.s.fl
def gn (U : List So) (g : Nat) : List So := (fsts U).filter (fun x => grpX x == g)
def ord (U : List So) : List So := (List.range' 1 8).flatMap (gn U)
theorem mem_ord {U : List So} {x : So} : x ∈ ord U ↔ x ∈ fsts U ∧ grpX x ≠ 0 := by
  unfold ord gn
  rw [List.mem_flatMap]
  constructor
  · rintro ⟨g, hg, hx⟩
    rw [List.mem_filter] at hx
    have h1 := (List.mem_range'_1.1 hg).1
    have h2 := hx.2
    simp at h2
    exact ⟨hx.1, by omega⟩
  · rintro ⟨h1, h2⟩
    have := grp_le x.s.ty x.s.fl
    exact ⟨grpX x, List.mem_range'_1.2 ⟨by omega, by unfold grpX at *; omega⟩, List.mem_filter.2 ⟨h1, by simp⟩⟩
theorem flat_sub {α β : Type} {f g : α → List β} : ∀ (l : List α), (∀ a ∈ l, (f a).Sublist (g a)) → (l.flatMap f).Sublist (l.flatMap g)
  | [], _ => List.Sublist.refl _
  | a :: r, h => by
    rw [List.flatMap_cons, List.flatMap_cons]
    exact (h a (by simp)).append (flat_sub r (fun b hb => h b (by simp [hb])))
theorem ord_app (U V : List So) : (ord U).Sublist (ord (U ++ V)) := by
  obtain ⟨r, h⟩ := fsts_app U V
  unfold ord gn
  rw [h]
  refine flat_sub _ fun g _ => ?_
  rw [List.filter_append]
  exact List.sublist_append_left _ _
theorem flat_grp (F : List So) : ∀ (n s : Nat), ((List.range' s n).flatMap (fun g => F.filter (fun x => grpX x == g))).Pairwise (fun x y => grpX x ≤ grpX y) ∧ ∀ x ∈ (List.range' s n).flatMap (fun g => F.filter (fun x => grpX x == g)), s ≤ grpX x
  | 0, s => ⟨by simp, by simp⟩
  | n + 1, s => by
    obtain ⟨h1, h2⟩ := flat_grp F n (s + 1)
    rw [List.range'_succ, List.flatMap_cons]
    have hq : ∀ x ∈ F.filter (fun x => grpX x == s), grpX x = s := fun x hx => by simpa using (List.mem_filter.1 hx).2
    refine ⟨List.pairwise_append.2 ⟨?_, h1, fun x hx y hy => ?_⟩, fun x hx => ?_⟩
    · rw [List.pairwise_iff_forall_sublist]
      intro a b hab
      rw [hq a (hab.subset (by simp)), hq b (hab.subset (by simp))]
      exact Nat.le_refl _
    · rw [hq x hx]
      have := h2 y hy
      omega
    · rcases List.mem_append.1 hx with h | h
      · rw [hq x h]; exact Nat.le_refl _
      · have := h2 x h; omega
theorem ord_grp (U : List So) : (ord U).Pairwise (fun x y => grpX x ≤ grpX y) := (flat_grp (fsts U) 8 1).1
theorem flat_nd (F : List So) (hF : (F.map (·.s.nm)).Nodup) : ∀ (n s : Nat), (((List.range' s n).flatMap (fun g => F.filter (fun x => grpX x == g))).map (·.s.nm)).Nodup
  | 0, s => by simp
  | n + 1, s => by
    rw [List.range'_succ, List.flatMap_cons, List.map_append, List.nodup_append]
    refine ⟨hF.sublist (List.filter_sublist.map _), flat_nd F hF n (s + 1), fun a ha b hb => ?_⟩
    rintro rfl
    obtain ⟨x, hx, rfl⟩ := List.mem_map.1 ha
    obtain ⟨y, hy, e⟩ := List.mem_map.1 hb
    have h1 := (List.mem_filter.1 hx)
    have h2 := (flat_grp F n (s + 1)).2 y hy
    have h3 : grpX x = s := by simpa using h1.2
    obtain ⟨g, _, hy2⟩ := List.mem_flatMap.1 hy
    have h4 := (List.mem_filter.1 hy2).1
    have h5 : x = y := by
      obtain ⟨i, hi, rfl⟩ := List.getElem_of_mem h1.1
      obtain ⟨j, hj, rfl⟩ := List.getElem_of_mem h4
      have := (List.getElem_inj (xs := F.map (·.s.nm)) (h₀ := by simpa using hi) (h₁ := by simpa using hj) hF).1 (by simpa using e.symm)
      subst this; rfl
    subst h5
    omega
theorem ord_nd (U : List So) : ((ord U).map (·.s.nm)).Nodup := flat_nd _ (fsts_nd U) 8 1

/-- The next multiple. -/
def upA (n a : Int) : Int := (n + a - 1) / a * a
theorem upA_all (n a : Int) (h : 1 ≤ a) : n ≤ upA n a ∧ upA n a < n + a ∧ upA n a % a = 0 := by
  unfold upA
  have e := Int.emod_add_mul_ediv (n + a - 1) a
  have r0 := Int.emod_nonneg (n + a - 1) (show a ≠ 0 by omega)
  have r1 := Int.emod_lt_of_pos (n + a - 1) (show 0 < a by omega)
  rw [Int.mul_comm]
  refine ⟨by omega, by omega, Int.mul_emod_right _ _⟩
/-- What is laid so far. -/
structure St where
  pg : Nat
  en : Int
  outs : List Ou
  at' : Nat → Nat → Int
def setA (f : Nat → Nat → Int) (o k : Nat) (a : Int) (i j : Nat) : Int := if i = o ∧ j = k then a else f i j
def put1 (p : Int × (Nat → Nat → Int)) (x : So) : Int × (Nat → Nat → Int) := (upA p.1 x.s.al + x.s.sz, setA p.2 x.o x.k (upA p.1 x.s.al))
def lay1 (U : List So) (st : St) (x : So) : St :=
  let e0 := if min (grpX x) 3 = st.pg then st.en else upA st.en 4096
  let m := mgo U x.s.nm
  let r := (ps U x.s.nm).foldl put1 (upA e0 m.al, st.at')
  ⟨min (grpX x) 3, r.1, st.outs ++ [{ m with ad := upA e0 m.al, sz := r.1 - upA e0 m.al }], r.2⟩
def st0 : St := ⟨0, 4096, [], fun _ _ => -1⟩
/-- All of them, up to the first that goes too far. -/
def layL (U : List So) : List So → St → Option St
  | [], st => some st
  | x :: r, st => if 16777216 < (lay1 U st x).en then none else layL U r (lay1 U st x)
def layG (U : List So) (st : St) (L : List So) : St := L.foldl (lay1 U) st
theorem layL_some : ∀ {U L : List So} {st st' : St}, layL U L st = some st' → layG U st L = st'
  | _, [], _, _, h => by simpa [layL, layG] using h
  | U, x :: r, st, st', h => by
    unfold layL at h
    split at h
    · cases h
    · exact layL_some (U := U) (L := r) h
end Go.Proofs.Ytojiomkinhnodaa
