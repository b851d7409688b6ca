/- Tokens, plainly: how a text is cut, by chapter 10's table. -/
import Derived.Test.YtljmbgflcidokaaGreatDoorChecked
import Derived.WalkKit
import Derived.ProofKit
import Derived.RowKit
import Derived.Below
import Derived.Laws.Strings2
import Derived.Laws.BytesArg
import Derived.Deep.RegionHeld3
import Derived.Deep.QuietTactic
import Derived.BigQuiet
namespace Go.Proofs.YtljmbgflcidokaaGreatDoor
open Go.ChangeShapes Go.WideShapes Go.ChangeAt Go.RowKit
set_option linter.unusedVariables false
set_option linter.unusedSimpArgs false

/-- A fact that no tactic shall look into. -/
structure Hid (p : Prop) : Prop where
  out : p

theorem ret_int {k : IntKind} {a b : Int} (h : a = b) : Ending.returned (.int k a) = Ending.returned (.int k b) := by rw [h]
theorem ret_bool {a b : Bool} (h : a = b) : Ending.returned (.bool a) = Ending.returned (.bool b) := by rw [h]

theorem below_drewN {B : Nat} {w w' : World} (h : Below B w w') (n : Nat) : Below B w (w'.drewN n) := by
  induction n with
  | zero => exact h
  | succ n ih => exact ih.drew

/-- A string of these bytes. -/
def St (l : List UInt8) : ByteArray := ⟨l.toArray⟩
theorem St_of (s : ByteArray) : St s.data.toList = s := rfl
theorem St_size (l : List UInt8) : (St l).size = l.length := by simp [St, ByteArray.size]
theorem St_list (l : List UInt8) : (St l).data.toList = l := rfl
theorem St_sub (l : List UInt8) (a b : Nat) : (St l).extract a b = St ((l.drop a).take (b - a)) := ByteArray.extract_mk l a b
/-- A string's bytes. -/
def lo (s : ByteArray) : List UInt8 := s.data.toList
theorem lo_len (s : ByteArray) : (lo s).length = s.size := by simp [lo]
theorem St_lo (s : ByteArray) : St (lo s) = s := rfl
theorem lo_St (l : List UInt8) : lo (St l) = l := rfl
theorem sub_St (s : ByteArray) (a b : Nat) : s.extract a b = St (((lo s).drop a).take (b - a)) := ByteArray.extract_mk (lo s) a b
theorem lo_sub (s : ByteArray) (a b : Nat) : lo (s.extract a b) = ((lo s).drop a).take (b - a) := by rw [sub_St]; rfl
theorem lo_at (s : ByteArray) (k : Nat) (h : k < s.size) : (lo s)[k]'(by rw [lo_len]; exact h) = s[k] := rfl
theorem St_inj {a b : List UInt8} (h : St a = St b) : a = b := by
  have := congrArg (fun s => s.data.toList) h
  simpa [St] using this

def letZ (z : Int) : Bool := (decide (65 ≤ z) && decide (z ≤ 90)) || (decide (97 ≤ z) && decide (z ≤ 122))
def digZ (z : Int) : Bool := decide (48 ≤ z) && decide (z ≤ 57)
def inZ (z : Int) : Bool := letZ z || (digZ z || (z == 95 || z == 46))
/-- A digit's worth; -1: it is none. -/
def hexZ (z : Int) : Int := if digZ z then z - 48 else if 97 ≤ z ∧ z ≤ 102 then z - 87 else if 65 ≤ z ∧ z ≤ 70 then z - 55 else -1
abbrev zOf (c : UInt8) : Int := (c.toNat : Int)
def isIn (c : UInt8) : Bool := inZ (zOf c)
def isDig (c : UInt8) : Bool := digZ (zOf c)
def isLet (c : UInt8) : Bool := letZ (zOf c)

/-- How many bytes of a name begin a text. -/
def wordN (l : List UInt8) : Nat := (l.takeWhile isIn).length

/-- Digits, read on from n. -/
def decF : List UInt8 → Int → Option Int
  | [], n => some n
  | c :: r, n => if isDig c = false then none else if (18446744073709551615 - (zOf c - 48)) / 10 < n then none else decF r (10 * n + (zOf c - 48))
def decM (l : List UInt8) : Option Int :=
  if (1 < l.length ∧ l.head? = some 48) ∨ 20 < l.length then none else decF l 0
/-- Digits of 16, read on from n. -/
def hexF : List UInt8 → Int → Option Int
  | [], n => some n
  | c :: r, n => if hexZ (zOf c) < 0 then none else hexF r (16 * n + hexZ (zOf c))

/-- A number that begins a text: its value, without a sign; its length. -/
def numM (l : List UInt8) : Option (Int × Nat) :=
  match l with
  | [] => none
  | c :: r =>
    if c = 39 then
      match r with
      | d :: e :: r' => if 33 ≤ zOf d ∧ zOf d ≤ 126 ∧ e = 39 ∧ (r'.head?.map isIn).getD false = false then some (zOf d, 3) else none
      | _ => none
    else if 2 < wordN l ∧ wordN l ≤ 18 ∧ c = 48 ∧ r.head? = some 120 then (hexF ((l.take (wordN l)).drop 2) 0).map fun v => (v, wordN l)
    else (decM (l.take (wordN l))).map fun v => (v, wordN l)

/-- An escape behind a \: its byte, its length. -/
def escM (l : List UInt8) : Option (UInt8 × Nat) :=
  match l with
  | [] => none
  | c :: r =>
    if c = 92 ∨ c = 34 then some (c, 1)
    else if c = 110 then some (10, 1)
    else if c = 116 then some (9, 1)
    else if c = 48 then some (0, 1)
    else if c = 120 then
      match r with
      | a :: b :: _ => if 0 ≤ hexZ (zOf a) ∧ 0 ≤ hexZ (zOf b) then some (UInt8.ofNat (16 * hexZ (zOf a) + hexZ (zOf b)).toNat, 3) else none
      | _ => none
    else none

/-- A text, behind its first ": its bytes, and how many bytes it takes, with fuel. -/
def quoF : Nat → List UInt8 → List UInt8 → Nat → Option (List UInt8 × Nat)
  | 0, _, _, _ => none
  | _ + 1, [], _, _ => none
  | n + 1, c :: r, acc, i =>
    if c = 34 then some (acc, i + 1)
    else if zOf c < 32 ∨ 126 < zOf c then none
    else if c = 92 then match escM r with | none => none | some (x, k) => quoF n (r.drop k) (acc ++ [x]) (i + 1 + k)
    else quoF n r (acc ++ [c]) (i + 1)
def quoM (l : List UInt8) : Option (List UInt8 × Nat) := quoF (l.length + 1) (l.drop 1) [] 1

def signs : List UInt8 := [44, 40, 41, 58, 36, 43, 45, 42, 47, 38, 126, 64, 61, 124, 94]
/-- How many bytes of a sign begin a text. -/
def signN (l : List UInt8) : Nat :=
  match l with
  | [] => 0
  | c :: r => if (c = 60 ∧ r.head? = some 60) ∨ (c = 62 ∧ r.head? = some 62) then 2 else if signs.contains c then 1 else 0

/-- A token, without its line. -/
structure Tok where
  k : Int
  n : Int
  t : List UInt8

/-- How many letters and digits, a letter first. -/
def regN (l : List UInt8) : Nat :=
  match l with
  | [] => 0
  | c :: r => if isLet c then 1 + (r.takeWhile fun c => isLet c || isDig c).length else 0

/-- The token that begins a text, and its length. -/
def oneM (l : List UInt8) : Option (Tok × Nat) :=
  match l with
  | [] => none
  | c :: r =>
    if c = 59 then some (⟨6, 0, []⟩, 1)
    else if isDig c = true ∨ c = 39 then (numM l).map fun p => (⟨2, wrap64 p.1, []⟩, p.2)
    else if c = 34 then (quoM l).map fun p => (⟨3, 0, p.1⟩, p.2)
    else if c = 37 then if regN r = 0 then none else some (⟨5, 0, r.take (regN r)⟩, 1 + regN r)
    else if isIn c = true then if wordN l ≤ 255 then some (⟨1, 0, l.take (wordN l)⟩, wordN l) else none
    else if signN l = 0 then none else some (⟨4, 0, l.take (signN l)⟩, signN l)

/-- The tokens of a line, but for its last End. -/
def lineF : Nat → List UInt8 → Option (List Tok)
  | 0, _ => some []
  | _ + 1, [] => some []
  | n + 1, c :: r =>
    if c = 35 then some []
    else if c = 32 ∨ c = 9 then lineF n r
    else match oneM (c :: r) with | none => none | some (t, k) => (lineF n ((c :: r).drop k)).map (t :: ·)
def lineM (l : List UInt8) : Option (List Tok) := (lineF (l.length + 1) l).map fun ts => if ts = [] then [] else ts ++ [⟨6, 0, []⟩]

/-- The lines of a text. -/
def linesF : List UInt8 → List UInt8 → List (List UInt8)
  | [], acc => if acc = [] then [] else [acc]
  | c :: r, acc => if c = 10 then acc :: linesF r [] else linesF r (acc ++ [c])
def linesM (l : List UInt8) : List (List UInt8) := linesF l []

/-- All lines' tokens, each with its line's number from k on; or the first line that has something else. -/
def cutF : List (List UInt8) → Nat → List (Tok × Int) → Except Int (List (Tok × Int))
  | [], _, acc => .ok acc
  | s :: r, k, acc => match lineM s with | none => .error k | some ts => cutF r (k + 1) (acc ++ ts.map fun t => (t, (k : Int)))
/-- What All answers: tokens; or a line and an error. -/
def allM (l : List UInt8) : Except (Int × Int) (List (Tok × Int)) :=
  if 65536 < l.length then .error (0, 6)
  else if 4000 < (linesM l).length then .error (0, 6)
  else match cutF (linesM l) 1 [] with | .error k => .error (k, 100) | .ok ts => .ok ts

/-- One byte, within a quoted text. -/
def hexD (n : Nat) : UInt8 := UInt8.ofNat (if n < 10 then 48 + n else 87 + n)
def quoC (c : UInt8) : List UInt8 :=
  if c = 10 then [92, 110] else if c = 9 then [92, 116] else if zOf c < 32 ∨ 126 < zOf c then [92, 120, hexD (c.toNat / 16), hexD (c.toNat % 16)] else if c = 34 ∨ c = 92 then [92, c] else [c]
def quoteM (l : List UInt8) : List UInt8 := 34 :: (l.flatMap quoC ++ [34])
end Go.Proofs.YtljmbgflcidokaaGreatDoor
