/- What names mean over objects, plainly. -/
import Derived.Test.YtojiomkinhnodaaSCheck
import Derived.Lib.Bytealg
namespace Go.Proofs.Ytojiomkinhnodaa
open Go.ChangeShapes Go.WideShapes Go.ChangeAt Go.RowKit Go.Maps
set_option linter.unusedVariables false
set_option linter.unusedSimpArgs false

/-- A section; an object. -/
structure Sec where
  nm : ByteArray
  ty : Int
  fl : Int
  al : Int
  da : Option Addr
  dn : Nat
  dc : Nat
  sz : Int
  ra : Option Addr
  rn : Nat
  rc : Nat
def Sec.zero : Sec := ⟨ByteArray.empty, 0, 0, 0, none, 0, 0, 0, none, 0, 0⟩
instance : Inhabited Sec := ⟨Sec.zero⟩
structure Fl where
  sa : Option Addr
  sc : Nat
  secs : List Sec
  ya : Option Addr
  yc : Nat
  syms : List Sym
def Fl.zero : Fl := ⟨none, 0, [], none, 0, []⟩
instance : Inhabited Fl := ⟨Fl.zero⟩
/-- An entry; a fault. -/
structure En where
  nm : ByteArray
  o : Int
  k : Int
  b : Int
  t : Int
def En.zero : En := ⟨ByteArray.empty, 0, 0, 0, 0⟩
instance : Inhabited En := ⟨En.zero⟩
structure Ft where
  e : Int
  nm : ByteArray
def Ft.zero : Ft := ⟨0, ByteArray.empty⟩
instance : Inhabited Ft := ⟨Ft.zero⟩
/-- What is known of a name, by symbols; by sections. -/
structure Us where
  m : En
  d : Bool
  st : Int
  wa : Bool
  tl : Bool
  ot : Bool
def Us.zero : Us := ⟨En.zero, false, 0, false, false, false⟩
instance : Inhabited Us := ⟨Us.zero⟩
structure Sh where
  k : Int
  f : Int
  th : Bool
  un : Bool
def Sh.zero : Sh := ⟨0, 0, false, false⟩
instance : Inhabited Sh := ⟨Sh.zero⟩

abbrev Sec.val (s : Sec) : Value := .agg #[.string s.nm, .int .i64 s.ty, .int .i64 s.fl, .int .i64 s.al, .slice s.da s.dn s.dc, .int .i64 s.sz, .slice s.ra s.rn s.rc]
abbrev Fl.val (f : Fl) : Value := .agg #[.slice f.sa f.secs.length f.sc, .slice f.ya f.syms.length f.yc]
abbrev En.val (x : En) : Value := .agg #[.string x.nm, .int .i64 x.o, .int .i64 x.k, .int .i64 x.b, .int .i64 x.t]
abbrev Ft.val (x : Ft) : Value := .agg #[.int .i64 x.e, .string x.nm]
abbrev Us.val (u : Us) : Value := .agg #[.string u.m.nm, .int .i64 u.m.o, .int .i64 u.m.k, .int .i64 u.m.b, .int .i64 u.m.t, .bool u.d, .int .i64 u.st, .bool u.wa, .bool u.tl, .bool u.ot]
abbrev Sh.val (u : Sh) : Value := .agg #[.int .i64 u.k, .int .i64 u.f, .bool u.th, .bool u.un]

/-- One symbol more that defines the name. -/
def defU (u : Us) (x : En) : Us := { u with m := if x.b == 1 || !u.d then x else u.m, st := if x.b == 1 then wrap64 (u.st + 1) else u.st, d := true }
/-- One symbol more. -/
def withU (u : Us) (s : Sym) (o k : Int) : Us :=
  let v := if empB s.sc then { u with wa := u.wa || s.b == 1 } else defU u ⟨s.nm, o, k, s.b, s.t⟩
  { v with tl := v.tl || s.t == 6, ot := v.ot || (!(s.t == 6) && !(s.t == 0)) }
/-- One section more. -/
def withS (l : Sh) (ty fl : Int) : Sh := if l.th then { l with un := l.un || !(ty == l.k && fl == l.f) } else ⟨ty, fl, true, false⟩

def nmB (a b : ByteArray) : Bool := decide (a = b)

/-- A symbol in its place. -/
structure Oc where
  o : Nat
  k : Nat
  s : Sym
def ocs (o : Nat) (l : List Sym) : List Oc := l.zipIdx.map (fun p => ⟨o, p.2, p.1⟩)
def occ (l : List Fl) : List Oc := l.zipIdx.flatMap (fun p => ocs p.2 p.1.syms)
theorem ocs_snoc (o : Nat) (l : List Sym) (s : Sym) : ocs o (l ++ [s]) = ocs o l ++ [⟨o, l.length, s⟩] := by simp [ocs, List.zipIdx_append]
theorem occ_snoc (l : List Fl) (f : Fl) : occ (l ++ [f]) = occ l ++ ocs l.length f.syms := by simp [occ, List.zipIdx_append]
theorem mem_ocs {o : Nat} {l : List Sym} {x : Oc} : x ∈ ocs o l ↔ x.o = o ∧ l[x.k]? = some x.s := by
  unfold ocs
  rw [List.mem_map]
  constructor
  · rintro ⟨⟨s, k⟩, h, rfl⟩
    exact ⟨rfl, List.mem_zipIdx_iff_getElem?.1 h⟩
  · rintro ⟨rfl, h⟩
    exact ⟨(x.s, x.k), List.mem_zipIdx_iff_getElem?.2 h, rfl⟩
theorem mem_occ {l : List Fl} {x : Oc} : x ∈ occ l ↔ ∃ f, l[x.o]? = some f ∧ f.syms[x.k]? = some x.s := by
  unfold occ
  rw [List.mem_flatMap]
  constructor
  · rintro ⟨⟨f, o⟩, h, hx⟩
    obtain ⟨e, h2⟩ := mem_ocs.1 hx
    subst e
    exact ⟨f, List.mem_zipIdx_iff_getElem?.1 h, h2⟩
  · rintro ⟨f, h, h2⟩
    exact ⟨(f, x.o), List.mem_zipIdx_iff_getElem?.2 h, mem_ocs.2 ⟨rfl, h2⟩⟩

/-- Those that are not Local and have the name. -/
def cnt (n : ByteArray) (x : Oc) : Bool := !(x.s.b == 0) && nmB x.s.nm n
def useOf (l : List Oc) (n : ByteArray) : Us := (l.filter (cnt n)).foldl (fun u x => withU u x.s x.o x.k) Us.zero
def mU (l : List Oc) (n : ByteArray) : Option Us := if l.any (cnt n) then some (useOf l n) else none
def secN (n : ByteArray) (s : Sec) : Bool := nmB s.nm n
def shOf (l : List Sec) (n : ByteArray) : Sh := (l.filter (secN n)).foldl (fun u s => withS u s.ty s.fl) Sh.zero
def mS (l : List Sec) (n : ByteArray) : Option Sh := if l.any (secN n) then some (shOf l n) else none

def putN {α : Type} (m : ByteArray → Option α) (s : ByteArray) (v : α) (t : ByteArray) : Option α := if t = s then some v else m t

theorem useOf_none {l : List Oc} {n : ByteArray} (h : l.any (cnt n) = false) : useOf l n = Us.zero := by
  unfold useOf
  rw [List.filter_eq_nil_iff.2 (fun x hx => by rw [List.any_eq_false] at h; exact h x hx)]
  rfl
theorem mU_getD (l : List Oc) (n : ByteArray) : (mU l n).getD Us.zero = useOf l n := by
  unfold mU
  cases h : l.any (cnt n)
  · rw [useOf_none h]; rfl
  · rfl
theorem shOf_none {l : List Sec} {n : ByteArray} (h : l.any (secN n) = false) : shOf l n = Sh.zero := by
  unfold shOf
  rw [List.filter_eq_nil_iff.2 (fun x hx => by rw [List.any_eq_false] at h; exact h x hx)]
  rfl
theorem mS_getD (l : List Sec) (n : ByteArray) : (mS l n).getD Sh.zero = shOf l n := by
  unfold mS
  cases h : l.any (secN n)
  · rw [shOf_none h]; rfl
  · rfl
theorem mU_local (l : List Oc) (x : Oc) (h : (x.s.b == 0) = true) : mU (l ++ [x]) = mU l := by
  funext t
  have e : cnt t x = false := by simp [cnt, h]
  simp [mU, useOf, List.filter_append, e]
theorem mU_snoc (l : List Oc) (x : Oc) (h : (x.s.b == 0) = false) : mU (l ++ [x]) = putN (mU l) x.s.nm (withU ((mU l x.s.nm).getD Us.zero) x.s x.o x.k) := by
  funext t
  rw [mU_getD]
  unfold putN
  by_cases e : t = x.s.nm
  · subst e
    have e1 : cnt x.s.nm x = true := by simp [cnt, h, nmB]
    rw [if_pos rfl]
    simp [mU, useOf, List.filter_append, e1, List.foldl_append]
  · have e1 : cnt t x = false := by simp [cnt, nmB]; exact fun _ h => e h.symm
    rw [if_neg e]
    simp [mU, useOf, List.filter_append, e1]
theorem mS_snoc (l : List Sec) (x : Sec) : mS (l ++ [x]) = putN (mS l) x.nm (withS ((mS l x.nm).getD Sh.zero) x.ty x.fl) := by
  funext t
  rw [mS_getD]
  unfold putN
  by_cases e : t = x.nm
  · subst e
    have e1 : secN x.nm x = true := by simp [secN, nmB]
    rw [if_pos rfl]
    simp [mS, shOf, List.filter_append, e1, List.foldl_append]
  · have e1 : secN t x = false := by simp [secN, nmB]; exact fun h => e h.symm
    rw [if_neg e]
    simp [mS, shOf, List.filter_append, e1]

/-- What comes before what. -/
def bef (a b : ByteArray) : Prop := Lib.compareBytes a.data.toList b.data.toList < 0
theorem cb_self : ∀ a : List UInt8, Lib.compareBytes a a = 0
  | [] => rfl
  | x :: r => by
    unfold Lib.compareBytes
    rw [if_neg (UInt8.lt_irrefl x), if_neg (UInt8.lt_irrefl x), cb_self r]
theorem cb_eq : ∀ a b : List UInt8, Lib.compareBytes a b = 0 → a = b
  | [], [], _ => rfl
  | [], _ :: _, h => by simp [Lib.compareBytes] at h
  | _ :: _, [], h => by simp [Lib.compareBytes] at h
  | x :: r, y :: s, h => by
    unfold Lib.compareBytes at h
    by_cases h1 : x < y
    · rw [if_pos h1] at h; omega
    · by_cases h2 : y < x
      · rw [if_neg h1, if_pos h2] at h; omega
      · rw [if_neg h1, if_neg h2] at h
        have e : x = y := UInt8.le_antisymm (UInt8.not_lt.1 h2) (UInt8.not_lt.1 h1)
        rw [e, cb_eq r s h]
theorem cb_neg : ∀ a b : List UInt8, Lib.compareBytes b a = - Lib.compareBytes a b
  | [], [] => rfl
  | [], _ :: _ => by simp [Lib.compareBytes]
  | _ :: _, [] => by simp [Lib.compareBytes]
  | x :: r, y :: s => by
    unfold Lib.compareBytes
    by_cases h1 : x < y
    · have h2 : ¬ y < x := fun h => UInt8.lt_irrefl x (UInt8.lt_trans h1 h)
      rw [if_pos h1, if_neg h2, if_pos h1]; rfl
    · by_cases h2 : y < x
      · rw [if_pos h2, if_neg h1, if_pos h2]
      · rw [if_neg h1, if_neg h2, if_neg h2, if_neg h1, cb_neg r s]
theorem cb_trans : ∀ a b c : List UInt8, Lib.compareBytes a b < 0 → Lib.compareBytes b c < 0 → Lib.compareBytes a c < 0
  | [], [], _, h, _ => by simp [Lib.compareBytes] at h
  | [], _ :: _, [], _, h => by simp [Lib.compareBytes] at h
  | [], _ :: _, _ :: _, _, _ => by simp [Lib.compareBytes]
  | _ :: _, [], _, h, _ => by simp [Lib.compareBytes] at h
  | _ :: _, _ :: _, [], _, h => by simp [Lib.compareBytes] at h
  | x :: r, y :: s, z :: t, h1, h2 => by
    unfold Lib.compareBytes at h1 h2 ⊢
    by_cases a1 : x < y
    · by_cases a2 : y < z
      · rw [if_pos (UInt8.lt_trans a1 a2)]; omega
      · by_cases a3 : z < y
        · rw [if_neg a2, if_pos a3] at h2; omega
        · have e : y = z := UInt8.le_antisymm (UInt8.not_lt.1 a3) (UInt8.not_lt.1 a2)
          subst e
          rw [if_pos a1]; omega
    · by_cases b1 : y < x
      · rw [if_neg a1, if_pos b1] at h1; omega
      · have e : x = y := UInt8.le_antisymm (UInt8.not_lt.1 b1) (UInt8.not_lt.1 a1)
        subst e
        by_cases a2 : x < z
        · rw [if_pos a2]; omega
        · by_cases a3 : z < x
          · rw [if_neg a2, if_pos a3] at h2; omega
          · rw [if_neg a1, if_neg b1] at h1
            rw [if_neg a2, if_neg a3] at h2 ⊢
            exact cb_trans r s t h1 h2
theorem bef_irrefl (a : ByteArray) : ¬ bef a a := by unfold bef; rw [cb_self]; omega
theorem bef_trans {a b c : ByteArray} (h1 : bef a b) (h2 : bef b c) : bef a c := cb_trans _ _ _ h1 h2
theorem bef_tri {a b : ByteArray} (h1 : ¬ bef a b) (h2 : ¬ bef b a) : a = b := by
  unfold bef at h1 h2
  rw [cb_neg] at h2
  exact ByteArray.ext (Array.toList_inj.1 (cb_eq _ _ (by omega)))

/-- All that m says, by name, rising. -/
structure RowsOf {α : Type} (L : List (ByteArray × α)) (m : ByteArray → Option α) : Prop where
  up : L.Pairwise (fun x y => bef x.1 y.1)
  mem : ∀ n v, (n, v) ∈ L ↔ m n = some v
theorem rows_uni {α : Type} : ∀ {L L' : List (ByteArray × α)}, L.Pairwise (fun x y => bef x.1 y.1) → L'.Pairwise (fun x y => bef x.1 y.1) → (∀ x, x ∈ L ↔ x ∈ L') → L = L'
  | [], [], _, _, _ => rfl
  | [], y :: r, _, _, h => absurd ((h y).2 (by simp)) (by simp)
  | x :: r, [], _, _, h => absurd ((h x).1 (by simp)) (by simp)
  | x :: r, y :: s, h1, h2, h => by
    obtain ⟨h3, h4⟩ := List.pairwise_cons.1 h1
    obtain ⟨h5, h6⟩ := List.pairwise_cons.1 h2
    have e : x = y := by
      rcases List.mem_cons.1 ((h x).1 (by simp)) with e | e
      · exact e
      · rcases List.mem_cons.1 ((h y).2 (by simp)) with e' | e'
        · exact e'.symm
        · exact absurd (bef_trans (h3 _ e') (h5 _ e)) (bef_irrefl _)
    subst e
    rw [rows_uni h4 h6 (fun z => ?_)]
    constructor
    · intro hz
      rcases List.mem_cons.1 ((h z).1 (by simp [hz])) with e | e
      · subst e; exact absurd (h3 _ hz) (bef_irrefl _)
      · exact e
    · intro hz
      rcases List.mem_cons.1 ((h z).2 (by simp [hz])) with e | e
      · subst e; exact absurd (h5 _ hz) (bef_irrefl _)
      · exact e
theorem RowsOf.uni {α : Type} {L L' : List (ByteArray × α)} {m : ByteArray → Option α} (h : RowsOf L m) (h' : RowsOf L' m) : L = L' :=
  rows_uni h.up h'.up (fun x => by rw [show x = (x.1, x.2) from rfl, h.mem, h'.mem])
open Classical in
noncomputable def rws {α : Type} (m : ByteArray → Option α) : List (ByteArray × α) := if h : ∃ L, RowsOf L m then h.choose else []
theorem rws_eq {α : Type} {L : List (ByteArray × α)} {m : ByteArray → Option α} (h : RowsOf L m) : rws m = L := by
  unfold rws
  rw [dif_pos ⟨L, h⟩]
  exact (Exists.choose_spec (⟨L, h⟩ : ∃ L, RowsOf L m)).uni h

noncomputable def rowsU (l : List Fl) : List (ByteArray × Us) := rws (mU (occ l))
noncomputable def rowsS (l : List Fl) : List (ByteArray × Sh) := rws (mS (l.flatMap (·.secs)))
def ftOf {α : Type} (e : Int) (p : α → Bool) (L : List (ByteArray × α)) : List Ft := (L.filter (fun r => p r.2)).map (fun r => ⟨e, r.1⟩)
def twice (u : Us) : Bool := decide (1 < u.st)
def undef1 (u : Us) : Bool := u.wa && !u.d
def mixd (u : Us) : Bool := u.tl && u.ot
noncomputable def faultsL (l : List Fl) : List Ft := ftOf 180 twice (rowsU l) ++ ftOf 181 undef1 (rowsU l) ++ ftOf 182 mixd (rowsU l) ++ ftOf 182 Sh.un (rowsS l)
def entOf (r : ByteArray × Us) : En := if r.2.d then r.2.m else ⟨r.1, -1, -1, 2, 0⟩
noncomputable def entsL (l : List Fl) : List En := (rowsU l).map entOf

end Go.Proofs.Ytojiomkinhnodaa
