/-
  NARROWER THAN 'FOR EVERY INPUT', by the rows' own cells (each row's printed sentence says how): SymtabWrites: laid · SymtabReads: laid · SymtabBack: laid.
  DERIVED. THE GIVEN ROWS OF THIS SEAT. 3 by the template 'for every input the law returns true; each argument reads behind the call as it read before'; 0 by the template 'total and deterministic' (their statements: YtpdcbokcoaienaaDoorTotals.lean).
  GIVEN WITH THE SEED: the statements are not yours to turn. If you find one false, say at which input.
  Laid BY PROGRAM, IN A SANDBOX (cutbox-rows.mjs): the forced cells as the released guide's own fill.sh prints them over the translation 9b15797e2350876d… (all of the seat's roots in one cut). By AI agents, Wed Nov 11 2026. No macro, syntax, notation, axiom, sorry.
-/
import Derived.Test.YtpdcbokcoaienaaDoorChecked
import GoSem.Claim
import GoSem.ClaimJoined
import GoSem.ClaimMapViews
import Derived.JoinedTies
import Derived.KernelRfl
namespace Go.Proofs.YtpdcbokcoaienaaDoor
/- THE CELL 'sum', in the pinned program and in every row, IS THE sha256 OF THE DUMP (.gsa) THAT YtpdcbokcoaienaaDoorProg.lean LOADS. Nothing in Lean hashes anything: it is a label: what it is worth is what the hold of that sum in a sandbox is worth. -/
noncomputable def Tryd.pinned : Pinned := { name := "ytpdcbokcoaienaadoor", sum := "9b15797e2350876d2aac2cd26faa450b29371b68648f15df4b2cb5f2b6724708", checked := Tryd.checked }
namespace Rows
def none {H : Type} : Left H := { results := [], args := [] }

/- WHAT THE LISTED PACKAGE-LEVEL VARIABLES READ AS WHEN THE CALL BEGINS. Each datum BY PROGRAM (the guide's laid-datum.mjs) off the statement by which the dump's own 'gosem.cut.vars' lays the variable. In a bare row this is a premise. The card (YtpdcbokcoaienaaDoorCards.lean) ties it to the program's text. -/
def laid_gangway_symtab_fieldSizes {H : Type} : DataW H := .agg [.lit (.int .i64 4), .lit (.int .i64 1), .lit (.int .i64 1), .lit (.int .i64 2), .lit (.int .i64 8), .lit (.int .i64 8)]

/-- 'gangwaylaw08.SymtabWrites': WHATEVER THE INPUT: true; the input reads as it did. -/
def symtabWritesSpec : ChangeSpec := { name := "symtabWrites", fn := fun _ => fun
  | [d1, d2] => { results := [.lit (.bool true)], args := [d1, d2] }
  | _ => none }
def symtabWritesRow : OpenClaim := { program := "ytpdcbokcoaienaadoor", sum := "9b15797e2350876d2aac2cd26faa450b29371b68648f15df4b2cb5f2b6724708", func := "gangway/gangwaylaw08.SymtabWrites", spec := "symtabWrites", inPlace := ["internal/bytealg.IndexByteString"], unfollowed := true, recurses := true, named := ["gangway/symtab.fieldSizes"], plainKeys := false, apart := false, laid := [("gangway/symtab.fieldSizes", laid_gangway_symtab_fieldSizes)] }
def SymtabWritesSaid : Prop := symtabWritesRow.holds Tryd.pinned (OpenSpec.ofChange symtabWritesSpec)

/-- ITS FALSE NEIGHBOUR: 'it returns false'. Refute it at one input. -/
def symtabWritesWrong : ChangeSpec := { name := "symtabWrites", fn := fun _ => fun
  | [d1, d2] => { results := [.lit (.bool false)], args := [d1, d2] }
  | _ => none }
def SymtabWritesWrongFalsely : Prop := symtabWritesRow.holds Tryd.pinned (OpenSpec.ofChange symtabWritesWrong)

/-- 'gangwaylaw08.SymtabReads': WHATEVER THE INPUT: true; the input reads as it did. -/
def symtabReadsSpec : ChangeSpec := { name := "symtabReads", fn := fun _ => fun
  | [d1, d2, d3, d4] => { results := [.lit (.bool true)], args := [d1, d2, d3, d4] }
  | _ => none }
def symtabReadsRow : OpenClaim := { program := "ytpdcbokcoaienaadoor", sum := "9b15797e2350876d2aac2cd26faa450b29371b68648f15df4b2cb5f2b6724708", func := "gangway/gangwaylaw08.SymtabReads", spec := "symtabReads", inPlace := ["internal/bytealg.IndexByte", "internal/bytealg.IndexByteString"], unfollowed := true, recurses := true, named := ["gangway/symtab.fieldSizes"], plainKeys := false, apart := false, laid := [("gangway/symtab.fieldSizes", laid_gangway_symtab_fieldSizes)] }
def SymtabReadsSaid : Prop := symtabReadsRow.holds Tryd.pinned (OpenSpec.ofChange symtabReadsSpec)

/-- ITS FALSE NEIGHBOUR: 'it returns false'. Refute it at one input. -/
def symtabReadsWrong : ChangeSpec := { name := "symtabReads", fn := fun _ => fun
  | [d1, d2, d3, d4] => { results := [.lit (.bool false)], args := [d1, d2, d3, d4] }
  | _ => none }
def SymtabReadsWrongFalsely : Prop := symtabReadsRow.holds Tryd.pinned (OpenSpec.ofChange symtabReadsWrong)

/-- 'gangwaylaw08.SymtabBack': WHATEVER THE INPUT: true; the input reads as it did. -/
def symtabBackSpec : ChangeSpec := { name := "symtabBack", fn := fun _ => fun
  | [d1, d2] => { results := [.lit (.bool true)], args := [d1, d2] }
  | _ => none }
def symtabBackRow : OpenClaim := { program := "ytpdcbokcoaienaadoor", sum := "9b15797e2350876d2aac2cd26faa450b29371b68648f15df4b2cb5f2b6724708", func := "gangway/gangwaylaw08.SymtabBack", spec := "symtabBack", inPlace := ["internal/bytealg.IndexByteString", "internal/bytealg.IndexByte"], unfollowed := true, recurses := true, named := ["gangway/symtab.fieldSizes"], plainKeys := false, apart := false, laid := [("gangway/symtab.fieldSizes", laid_gangway_symtab_fieldSizes)] }
def SymtabBackSaid : Prop := symtabBackRow.holds Tryd.pinned (OpenSpec.ofChange symtabBackSpec)

/-- ITS FALSE NEIGHBOUR: 'it returns false'. Refute it at one input. -/
def symtabBackWrong : ChangeSpec := { name := "symtabBack", fn := fun _ => fun
  | [d1, d2] => { results := [.lit (.bool false)], args := [d1, d2] }
  | _ => none }
def SymtabBackWrongFalsely : Prop := symtabBackRow.holds Tryd.pinned (OpenSpec.ofChange symtabBackWrong)

/- THE SECOND FORM. 'bulk': how many values and letters a reading holds, each counted each time it is reached (what is shared counts as often as it is met; a slice's spare places count too). A statement '..UptoSaid' is the law's where the arguments, and the package variables that the reading takes, are together of bulk at most 1048576: NARROWER than '..Said'. Prove '..Said' where nothing that the law and all that it calls make is longer than what came in: it says more and counts as full. Else prove '..UptoSaid'. A law counts once. -/
mutual
def uptoBulk {H : Type} : DataW H → Nat
  | .lit (.string bytes) => bytes.length + 1
  | .lit _ => 1
  | .nil => 1
  | .ptr d => uptoBulk d + 1
  | .slice elems spare => uptoBulkAll elems + uptoBulkAll spare + 1
  | .agg parts => uptoBulkAll parts + 1
  | .iface _ d => uptoBulk d + 1
  | .map entries => uptoBulkEntries entries + 1
  | .held _ => 1
def uptoBulkAll {H : Type} : List (DataW H) → Nat
  | [] => 0
  | d :: r => uptoBulk d + uptoBulkAll r
def uptoBulkEntries {H : Type} : List (Lit × DataW H) → Nat
  | [] => 0
  | x :: r => uptoBulkEntry x + uptoBulkEntries r
def uptoBulkEntry {H : Type} : Lit × DataW H → Nat
  | (.string bytes, d) => bytes.length + uptoBulk d + 1
  | (_, d) => uptoBulk d + 1
 end
def uptoSmall : (H : Type) → List (DataW H) → Bool := fun _ ds => decide (uptoBulkAll ds ≤ 1048576)
def OpenSpec.upto (s : _root_.Go.ChangeSpec) : _root_.Go.OpenSpec := { _root_.Go.OpenSpec.ofChange s with cond := some uptoSmall }

/-- 'gangwaylaw08.SymtabWrites', WHERE WHAT IT READS IS OF BULK AT MOST 1048576: true; the input reads as it did. -/
def symtabWritesUptoRow : OpenClaim := { program := "ytpdcbokcoaienaadoor", sum := "9b15797e2350876d2aac2cd26faa450b29371b68648f15df4b2cb5f2b6724708", func := "gangway/gangwaylaw08.SymtabWrites", spec := "symtabWrites", inPlace := ["internal/bytealg.IndexByteString"], unfollowed := true, recurses := true, named := ["gangway/symtab.fieldSizes"], plainKeys := false, apart := false, laid := [("gangway/symtab.fieldSizes", laid_gangway_symtab_fieldSizes)], narrowed := true }
def SymtabWritesUptoSaid : Prop := symtabWritesUptoRow.holds Tryd.pinned (OpenSpec.upto symtabWritesSpec)

/-- 'gangwaylaw08.SymtabReads', WHERE WHAT IT READS IS OF BULK AT MOST 1048576: true; the input reads as it did. -/
def symtabReadsUptoRow : OpenClaim := { program := "ytpdcbokcoaienaadoor", sum := "9b15797e2350876d2aac2cd26faa450b29371b68648f15df4b2cb5f2b6724708", func := "gangway/gangwaylaw08.SymtabReads", spec := "symtabReads", inPlace := ["internal/bytealg.IndexByte", "internal/bytealg.IndexByteString"], unfollowed := true, recurses := true, named := ["gangway/symtab.fieldSizes"], plainKeys := false, apart := false, laid := [("gangway/symtab.fieldSizes", laid_gangway_symtab_fieldSizes)], narrowed := true }
def SymtabReadsUptoSaid : Prop := symtabReadsUptoRow.holds Tryd.pinned (OpenSpec.upto symtabReadsSpec)

/-- 'gangwaylaw08.SymtabBack', WHERE WHAT IT READS IS OF BULK AT MOST 1048576: true; the input reads as it did. -/
def symtabBackUptoRow : OpenClaim := { program := "ytpdcbokcoaienaadoor", sum := "9b15797e2350876d2aac2cd26faa450b29371b68648f15df4b2cb5f2b6724708", func := "gangway/gangwaylaw08.SymtabBack", spec := "symtabBack", inPlace := ["internal/bytealg.IndexByteString", "internal/bytealg.IndexByte"], unfollowed := true, recurses := true, named := ["gangway/symtab.fieldSizes"], plainKeys := false, apart := false, laid := [("gangway/symtab.fieldSizes", laid_gangway_symtab_fieldSizes)], narrowed := true }
def SymtabBackUptoSaid : Prop := symtabBackUptoRow.holds Tryd.pinned (OpenSpec.upto symtabBackSpec)

end Rows
end Go.Proofs.YtpdcbokcoaienaaDoor
