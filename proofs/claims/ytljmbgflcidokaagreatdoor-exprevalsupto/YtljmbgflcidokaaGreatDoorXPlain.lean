/- Expressions, plainly: what chapter 11 asks, place by place. -/
import Derived.Test.YtljmbgflcidokaaGreatDoorLxTok
namespace Go.Proofs.YtljmbgflcidokaaGreatDoor
open Go.ChangeShapes Go.WideShapes Go.ChangeAt Go.RowKit
set_option linter.unusedVariables false
set_option linter.unusedSimpArgs false

/-- A value: a name's address more, another one's less, a number. -/
structure Vx where
  p : ByteArray
  m : ByteArray
  n : Int
def es : ByteArray := ⟨#[]⟩
def Vx.zero : Vx := ⟨es, es, 0⟩
def Vx.num (n : Int) : Vx := ⟨es, es, n⟩
def sB (a b : ByteArray) : Bool := a.toList == b.toList
def redV (v : Vx) : Vx := if sB v.p v.m = true then ⟨es, es, v.n⟩ else v

/-- What is left of two names, when one and the same falls away. -/
def cutN (a b : ByteArray) : ByteArray × ByteArray := if sB a b = true then (es, es) else (a, b)
def twoN (ap bp am bm : ByteArray) : Bool := (!sB ap es && !sB bp es) || (!sB am es && !sB bm es)
def addR (a b : Vx) : Option Vx :=
  if twoN (cutN a.p b.m).1 (cutN a.m b.p).2 (cutN a.m b.p).1 (cutN a.p b.m).2 = true then none
  else some ⟨(cutN a.p b.m).1 ++ (cutN a.m b.p).2, (cutN a.m b.p).1 ++ (cutN a.p b.m).2, wrap64 (a.n + b.n)⟩
def addV (a b : Vx) : Option Vx := addR (redV a) (redV b)
def turnV (b : Vx) : Vx := ⟨b.m, b.p, wrap64 (-b.n)⟩
def subV (a b : Vx) : Option Vx := addV a (turnV b)

/-- Operators of numbers. -/
def mulN (x y : Int) : Option Int := some (wrap64 (x * y))
def divN (x y : Int) : Option Int := if y = 0 then none else some (wrap64 (x.tdiv y))
def isSh (y : Int) : Bool := decide (0 ≤ y) && decide (y ≤ 63)
def shlN (x y : Int) : Option Int := if isSh y = true then some (wrap64 (x * 2 ^ y.toNat)) else none
def shrN (x y : Int) : Option Int := if isSh y = true then some (wrap64 ((x % 18446744073709551616) / 2 ^ y.toNat)) else none
def andN (x y : Int) : Option Int := some (bits .and .i64 x y)
def orN (x y : Int) : Option Int := some (bits .or .i64 x y)
def xorN (x y : Int) : Option Int := some (bits .xor .i64 x y)
/-- An operator of numbers, of values. -/
def ofN (f : Int → Int → Option Int) (a b : Vx) : Option Vx :=
  if sB a.p a.m && sB b.p b.m = true then (f a.n b.n).map Vx.num else none

/-- The signs of operators of two: their levels, what they do. -/
def opsL : List (List UInt8 × Nat × (Vx → Vx → Option Vx)) :=
  [([42], 0, ofN mulN), ([47], 0, ofN divN), ([60, 60], 0, ofN shlN), ([62, 62], 0, ofN shrN), ([38], 1, ofN andN), ([124], 1, ofN orN), ([94], 1, ofN xorN), ([43], 2, addV), ([45], 2, subV)]
def opOf (s : List UInt8) : Option (Nat × (Vx → Vx → Option Vx)) := (opsL.find? fun p => p.1 == s).map (·.2)
def twoV (s : List UInt8) (a b : Vx) : Option Vx := match opOf s with | none => none | some (_, f) => f a b
def lvOf (s : List UInt8) : Option Nat := (opOf s).map (·.1)
def oneV (s : List UInt8) (v : Vx) : Option Vx :=
  if s = [45] then subV Vx.zero v
  else if s = [126] then if sB v.p v.m = true then some (Vx.num (bits .xor .i64 (-1) v.n)) else none
  else some v

/-- A name that stands for a value. -/
structure Dx where
  s : ByteArray
  v : Vx
def nameV (K : List Dx) (s : ByteArray) : Vx :=
  match K.find? fun d => sB d.s s with | some d => redV d.v | none => ⟨s, es, 0⟩

/-- The token at a place; behind the last one none. -/
def tk (L : List TL) (a : Nat) : Tok := (L.getD a TL.none).1
def isSg (L : List TL) (a : Nat) (s : List UInt8) : Bool := (tk L a).k == 4 && ((tk L a).t == s)
def isOne (L : List TL) (a : Nat) : Bool := isSg L a [45] || isSg L a [43] || isSg L a [126]
/-- How many operators of one stand from a place on: so many at most. -/
def onesN (L : List TL) : Nat → Nat → Nat
  | 0, _ => 0
  | f + 1, a => if isOne L a = true then 1 + onesN L f (a + 1) else 0
/-- A value, or an error; the place behind. -/
abbrev Res := Except Int (Vx × Nat)
def isLv (L : List TL) (a n : Nat) : Bool := (tk L a).k == 4 && (lvOf (tk L a).t == some n)

def atomM (K : List Dx) (L : List TL) (inner : Nat → Res) (a : Nat) : Res :=
  if isSg L a [40] = true then
    match inner (a + 1) with
    | .error e => .error e
    | .ok (v, b) => if isSg L b [41] = true then .ok (v, b + 1) else .error 110
  else if (tk L a).k == 2 then .ok (Vx.num (tk L a).n, a + 1)
  else if (tk L a).k == 1 then .ok (nameV K (St (tk L a).t), a + 1)
  else .error 110
/-- Operators of one, from the last one on, of those at a, a + 1 .. a + k - 1. -/
def onesF (L : List TL) (a : Nat) : Nat → Vx → Option Vx
  | 0, v => some v
  | j + 1, v => match oneV (tk L (a + j)).t v with | none => none | some v => onesF L a j v
def operM (K : List Dx) (L : List TL) (inner : Nat → Res) (a : Nat) : Res :=
  if 200 < onesN L 201 a then .error 6
  else match atomM K L inner (a + onesN L 201 a) with
    | .error e => .error e
    | .ok (v, b) => match onesF L a (onesN L 201 a) v with | none => .error 110 | some v => .ok (v, b)
def levF (L : List TL) (n : Nat) (tight : Nat → Res) : Nat → Vx → Nat → Res
  | 0, v, a => .ok (v, a)
  | f + 1, v, a =>
    if isLv L a n = true then
      match tight (a + 1) with
      | .error e => .error e
      | .ok (x, b) => match twoV (tk L a).t v x with | none => .error 110 | some y => levF L n tight f y b
    else .ok (v, a)
def levM (L : List TL) (n : Nat) (tight : Nat → Res) (a : Nat) : Res :=
  match tight a with
  | .error e => .error e
  | .ok (v, b) => levF L n tight (L.length + 1 - b) v b
def exprOf (K : List Dx) (L : List TL) (inner : Nat → Res) : Nat → Res := levM L 2 (levM L 1 (levM L 0 (operM K L inner)))
/-- What stands in brackets, so many more of them allowed. -/
def innerM (K : List Dx) (L : List TL) : Nat → Nat → Res
  | 0 => fun _ => .error 6
  | d + 1 => exprOf K L (innerM K L d)
def evalM (K : List Dx) (L : List TL) (a : Nat) : Res := exprOf K L (innerM K L 50) a

/-- A value's text. -/
def namesT (v : Vx) : ByteArray := if sB v.m es = true then v.p else v.p ++ (⟨#[45]⟩ ++ v.m)

/-- Places go on, and not past the end. -/
def Fwd (L : List TL) (f : Nat → Res) : Prop := ∀ a v b, f a = .ok (v, b) → a < b ∧ b ≤ L.length
theorem tk_past {L : List TL} {a : Nat} (h : L.length ≤ a) : tk L a = ⟨0, 0, []⟩ := by
  unfold tk
  simp [List.getD, List.getElem?_eq_none h]
  rfl
theorem tk_lt {L : List TL} {a : Nat} (h : ¬ (tk L a).k = 0) : a < L.length := by
  apply Classical.byContradiction
  intro hn
  exact h (by rw [tk_past (by omega)])
theorem sg_lt {L : List TL} {a : Nat} {s : List UInt8} (h : isSg L a s = true) : a < L.length := by
  apply tk_lt
  unfold isSg at h
  intro e
  simp [e] at h
theorem lv_lt {L : List TL} {a n : Nat} (h : isLv L a n = true) : a < L.length := by
  apply tk_lt
  unfold isLv at h
  intro e
  simp [e] at h
theorem atom_fwd {K : List Dx} {L : List TL} {inner : Nat → Res} (h : Fwd L inner) : Fwd L (atomM K L inner) := by
  intro a v b e
  unfold atomM at e
  split at e
  · cases hi : inner (a + 1) with
    | error x => rw [hi] at e; cases e
    | ok p =>
      obtain ⟨x, c⟩ := p
      rw [hi] at e
      simp only at e
      have := h _ _ _ hi
      split at e
      · rename_i h2
        have := sg_lt h2
        injection e with e
        injection e with e1 e2
        omega
      · cases e
  · split at e
    · rename_i h2
      have : a < L.length := tk_lt (fun x => by rw [x] at h2; cases h2)
      injection e with e
      injection e with e1 e2
      omega
    · split at e
      · rename_i h2
        have : a < L.length := tk_lt (fun x => by rw [x] at h2; cases h2)
        injection e with e
        injection e with e1 e2
        omega
      · cases e
theorem oper_fwd {K : List Dx} {L : List TL} {inner : Nat → Res} (h : Fwd L inner) : Fwd L (operM K L inner) := by
  intro a v b e
  unfold operM at e
  split at e
  · cases e
  · cases hi : atomM K L inner (a + onesN L 201 a) with
    | error x => rw [hi] at e; cases e
    | ok p =>
      obtain ⟨x, c⟩ := p
      rw [hi] at e
      simp only at e
      have := atom_fwd h _ _ _ hi
      cases ho : onesF L a (onesN L 201 a) x with
      | none => rw [ho] at e; cases e
      | some y =>
        rw [ho] at e
        injection e with e
        injection e with e1 e2
        omega
theorem levF_fwd {L : List TL} {n : Nat} {tight : Nat → Res} (h : Fwd L tight) : ∀ (f : Nat) (v : Vx) (a : Nat) (x : Vx) (b : Nat), a ≤ L.length → levF L n tight f v a = .ok (x, b) → a ≤ b ∧ b ≤ L.length
  | 0, v, a, x, b, ha, e => by
    unfold levF at e
    injection e with e
    injection e with e1 e2
    omega
  | f + 1, v, a, x, b, ha, e => by
    unfold levF at e
    split at e
    · cases hi : tight (a + 1) with
      | error x => rw [hi] at e; cases e
      | ok p =>
        obtain ⟨y, c⟩ := p
        rw [hi] at e
        simp only at e
        have := h _ _ _ hi
        cases ht : twoV (tk L a).t v y with
        | none => rw [ht] at e; cases e
        | some z =>
          rw [ht] at e
          have := levF_fwd h f z c x b (by omega) e
          omega
    · injection e with e
      injection e with e1 e2
      omega
theorem lev_fwd {L : List TL} {n : Nat} {tight : Nat → Res} (h : Fwd L tight) : Fwd L (levM L n tight) := by
  intro a v b e
  unfold levM at e
  cases hi : tight a with
  | error x => rw [hi] at e; cases e
  | ok p =>
    obtain ⟨y, c⟩ := p
    rw [hi] at e
    simp only at e
    have h1 := h _ _ _ hi
    have := levF_fwd h _ _ _ _ _ (by omega) e
    omega
theorem expr_fwd {K : List Dx} {L : List TL} {inner : Nat → Res} (h : Fwd L inner) : Fwd L (exprOf K L inner) := lev_fwd (lev_fwd (lev_fwd (oper_fwd h)))
theorem inner_fwd (K : List Dx) (L : List TL) : ∀ d, Fwd L (innerM K L d)
  | 0 => fun a v b e => by cases e
  | d + 1 => expr_fwd (inner_fwd K L d)
/-- What one bracket less allows is answered alike with one more. -/
theorem onesN_le (L : List TL) : ∀ (f a : Nat), onesN L f a ≤ f
  | 0, a => Nat.le_refl _
  | f + 1, a => by
    unfold onesN
    have := onesN_le L f (a + 1)
    split <;> omega
end Go.Proofs.YtljmbgflcidokaaGreatDoor
