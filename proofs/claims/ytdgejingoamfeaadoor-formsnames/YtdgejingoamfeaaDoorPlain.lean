/- What package forms' calls answer, as functions of plain data. -/
import Derived.Test.YtdgejingoamfeaaDoorRows
namespace Go.Proofs.YtdgejingoamfeaaDoor
set_option linter.unusedVariables false

/-- An operand. -/
structure O where
  k : Int
  r : Int
  b : Int
  x : Int
  s : Int
  rip : Bool
  fs : Bool
  n : Int
  nm : ByteArray
  m : Int

/-- An operand's value. -/
abbrev O.val (o : O) : Value := .agg #[.int .i64 o.k, .int .i64 o.r, .int .i64 o.b, .int .i64 o.x, .int .i64 o.s, .bool o.rip, .bool o.fs, .int .i64 o.n, .string o.nm, .int .i64 o.m]

/-- An instruction. -/
structure I where
  op : Int
  sz : Int
  cd : Int
  to : O
  fr : O
  sh : Bool

abbrev I.val (i : I) : Value := .agg #[.int .i64 i.op, .int .i64 i.sz, .int .i64 i.cd,
  .int .i64 i.to.k, .int .i64 i.to.r, .int .i64 i.to.b, .int .i64 i.to.x, .int .i64 i.to.s, .bool i.to.rip, .bool i.to.fs, .int .i64 i.to.n, .string i.to.nm, .int .i64 i.to.m,
  .int .i64 i.fr.k, .int .i64 i.fr.r, .int .i64 i.fr.b, .int .i64 i.fr.x, .int .i64 i.fr.s, .bool i.fr.rip, .bool i.fr.fs, .int .i64 i.fr.n, .string i.fr.nm, .int .i64 i.fr.m, .bool i.sh]

/-- A row of the table. -/
structure R where
  stem : ByteArray
  sizes : Int
  lettered : Bool
  conditional : Bool
  short : Bool
  f : Nat
  to : Int
  uses : Int
  sets : Int

abbrev R.val (r : R) : Value := .agg #[.string r.stem, .int .i64 r.sizes, .bool r.lettered, .bool r.conditional, .bool r.short, .func (.func r.f) #[] #[], .int .i64 r.to, .int .i64 r.uses, .int .i64 r.sets]

/-- Are two operands the same? -/
def O.same (a b : O) : Bool :=
  a.k == b.k && (a.r == b.r && (a.b == b.b && (a.x == b.x && (a.s == b.s && (a.rip == b.rip && (a.fs == b.fs && (a.n == b.n && (a.nm.toList == b.nm.toList && a.m == b.m))))))))

def withinB (n lo hi : Int) : Bool := decide (lo ≤ n) && decide (n ≤ hi)
def isRegB (r : Int) : Bool := withinB r 0 15
def fitsSB (n : Int) : Bool := withinB n (-2147483648) 2147483647
def fitsB (n size : Int) : Bool := if size = 1 then withinB n (-128) 255 else if size = 4 then withinB n (-2147483648) 4294967295 else fitsSB n
def isPlaceB (o : O) : Bool := o.k == 1 || o.k == 3

/-- Where a size stands. -/
def placeV (s : Int) : Int := if s = 8 then 0 else if s = 4 then 1 else if s = 1 then 2 else -1

def empB (s : ByteArray) : Bool := s.toList.isEmpty

/-- May a name have the byte? -/
def byteB (c : UInt8) : Bool := !(decide (c.toNat < 33) || decide (126 < c.toNat) || [40, 41, 44, 64, 36, 37, 42, 35, 59, 58, 34, 39].contains c)
def isNameB (s : ByteArray) : Bool := decide (1 ≤ s.data.toList.length) && decide (s.data.toList.length ≤ 255) && s.data.toList.all byteB

def nameMayB (o : O) (mods : List Int) : Bool := if empB o.nm then o.m == 0 else mods.contains o.m && isNameB o.nm

def indexMayB (o : O) : Bool := if o.x = -1 then o.s == 0 else isRegB o.x && (o.x != 4 && [1, 2, 4, 8].contains o.s)

def memMayB (o : O) : Bool :=
  if o.rip then (nameMayB o [0, 2, 3] && (o.m == 0 || o.n == 0)) && (o.same ⟨3, 0, -1, -1, 0, true, false, o.n, o.nm, o.m⟩ && fitsSB o.n)
  else if o.fs then nameMayB o [4] && (o.same ⟨3, 0, -1, -1, 0, false, true, o.n, o.nm, o.m⟩ && fitsSB o.n)
  else (nameMayB o [4, 5] && (isRegB o.b && indexMayB o)) && (o.same ⟨3, 0, o.b, o.x, o.s, false, false, o.n, o.nm, o.m⟩ && fitsSB o.n)

def targetMayB (o : O) : Bool :=
  o.same ⟨4, 0, 0, 0, 0, false, false, o.n, o.nm, o.m⟩ && (nameMayB o [0, 1] && (fitsSB o.n && (empB o.nm || o.n == 0)))

def zeroO : O := ⟨0, 0, 0, 0, 0, false, false, 0, ⟨#[]⟩, 0⟩

def mayB (o : O) : Bool :=
  if o.k = 0 then o.same zeroO
  else if o.k = 1 then o.same ⟨1, o.r, 0, 0, 0, false, false, 0, ⟨#[]⟩, 0⟩ && isRegB o.r
  else if o.k = 2 then o.same ⟨2, 0, 0, 0, 0, false, false, o.n, ⟨#[]⟩, 0⟩
  else if o.k = 3 then memMayB o
  else if o.k = 4 then targetMayB o
  else false
end Go.Proofs.YtdgejingoamfeaaDoor
