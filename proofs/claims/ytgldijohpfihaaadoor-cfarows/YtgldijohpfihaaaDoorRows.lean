/-
  NARROWER THAN 'FOR EVERY INPUT', by the rows' own cells (each row's printed sentence says how): CfaRows: laid · CfaCompiles: laid · CfaWrites: laid · CfaReads: laid · CfaBack: laid · CfaRise: laid.
  DERIVED. THE GIVEN ROWS OF THIS SEAT. 6 by the template 'for every input the law returns true; each argument reads behind the call as it read before'; 0 by the template 'total and deterministic' (their statements: YtgldijohpfihaaaDoorTotals.lean).
  GIVEN WITH THE SEED: the statements are not yours to turn. If you find one false, say at which input.
  Laid BY PROGRAM, IN A SANDBOX (cutbox-rows.mjs): the forced cells as the released guide's own fill.sh prints them over the translation 00d044c7e25bde8e… (all of the seat's roots in one cut). By AI agents, Wed Nov 11 2026. No macro, syntax, notation, axiom, sorry.
-/
import Derived.Test.YtgldijohpfihaaaDoorChecked
import GoSem.Claim
import GoSem.ClaimJoined
import GoSem.ClaimMapViews
import Derived.JoinedTies
import Derived.KernelRfl
namespace Go.Proofs.YtgldijohpfihaaaDoor
/- THE CELL 'sum', in the pinned program and in every row, IS THE sha256 OF THE DUMP (.gsa) THAT YtgldijohpfihaaaDoorProg.lean LOADS. Nothing in Lean hashes anything: it is a label: what it is worth is what the hold of that sum in a sandbox is worth. -/
noncomputable def Tryd.pinned : Pinned := { name := "ytgldijohpfihaaadoor", sum := "00d044c7e25bde8e1982246f0abe4c1f96436508fbcededa00235142b2f773f8", checked := Tryd.checked }
namespace Rows
def none {H : Type} : Left H := { results := [], args := [] }

/- WHAT THE LISTED PACKAGE-LEVEL VARIABLES READ AS WHEN THE CALL BEGINS. Each datum BY PROGRAM (the guide's laid-datum.mjs) off the statement by which the dump's own 'gosem.cut.vars' lays the variable. In a bare row this is a premise. The card (YtgldijohpfihaaaDoorCards.lean) ties it to the program's text. -/
def laid_gangway_cfa_shapes {H : Type} : DataW H := .agg [.agg [.lit (.int .i64 0), .lit (.int .i64 0), .lit (.int .i64 0), .lit (.int .i64 1)], .agg [.lit (.int .i64 0), .lit (.int .i64 0), .lit (.int .i64 2147483647), .lit (.int .i64 1)], .agg [.lit (.int .i64 16), .lit (.int .i64 0), .lit (.int .i64 2147483647), .lit (.int .i64 1)], .agg [.lit (.int .i64 0), .lit (.int .i64 0), .lit (.int .i64 2147483647), .lit (.int .i64 1)], .agg [.lit (.int .i64 16), .lit (.int .i64 0), .lit (.int .i64 0), .lit (.int .i64 1)], .agg [.lit (.int .i64 16), .lit (.int .i64 (-2147483648)), .lit (.int .i64 2147483647), .lit (.int .i64 8)], .agg [.lit (.int .i64 16), .lit (.int .i64 0), .lit (.int .i64 0), .lit (.int .i64 1)], .agg [.lit (.int .i64 16), .lit (.int .i64 0), .lit (.int .i64 0), .lit (.int .i64 1)], .agg [.lit (.int .i64 16), .lit (.int .i64 0), .lit (.int .i64 0), .lit (.int .i64 1)], .agg [.lit (.int .i64 0), .lit (.int .i64 0), .lit (.int .i64 0), .lit (.int .i64 1)], .agg [.lit (.int .i64 0), .lit (.int .i64 0), .lit (.int .i64 0), .lit (.int .i64 1)]]

/-- 'gangwaylaw13.CfaRows': WHATEVER THE INPUT: true; the input reads as it did. -/
def cfaRowsSpec : ChangeSpec := { name := "cfaRows", fn := fun _ => fun
  | [d1, d2, d3, d4] => { results := [.lit (.bool true)], args := [d1, d2, d3, d4] }
  | _ => none }
def cfaRowsRow : OpenClaim := { program := "ytgldijohpfihaaadoor", sum := "00d044c7e25bde8e1982246f0abe4c1f96436508fbcededa00235142b2f773f8", func := "gangway/gangwaylaw13.CfaRows", spec := "cfaRows", unfollowed := true, recurses := true, named := ["gangway/cfa.shapes"], apart := false, laid := [("gangway/cfa.shapes", laid_gangway_cfa_shapes)] }
def CfaRowsSaid : Prop := cfaRowsRow.holds Tryd.pinned (OpenSpec.ofChange cfaRowsSpec)

/-- ITS FALSE NEIGHBOUR: 'it returns false'. Refute it at one input. -/
def cfaRowsWrong : ChangeSpec := { name := "cfaRows", fn := fun _ => fun
  | [d1, d2, d3, d4] => { results := [.lit (.bool false)], args := [d1, d2, d3, d4] }
  | _ => none }
def CfaRowsWrongFalsely : Prop := cfaRowsRow.holds Tryd.pinned (OpenSpec.ofChange cfaRowsWrong)

/-- 'gangwaylaw13.CfaCompiles': WHATEVER THE INPUT: true; the input reads as it did. -/
def cfaCompilesSpec : ChangeSpec := { name := "cfaCompiles", fn := fun _ => fun
  | [d1, d2] => { results := [.lit (.bool true)], args := [d1, d2] }
  | _ => none }
def cfaCompilesRow : OpenClaim := { program := "ytgldijohpfihaaadoor", sum := "00d044c7e25bde8e1982246f0abe4c1f96436508fbcededa00235142b2f773f8", func := "gangway/gangwaylaw13.CfaCompiles", spec := "cfaCompiles", unfollowed := true, recurses := true, named := ["gangway/cfa.shapes"], apart := false, laid := [("gangway/cfa.shapes", laid_gangway_cfa_shapes)] }
def CfaCompilesSaid : Prop := cfaCompilesRow.holds Tryd.pinned (OpenSpec.ofChange cfaCompilesSpec)

/-- ITS FALSE NEIGHBOUR: 'it returns false'. Refute it at one input. -/
def cfaCompilesWrong : ChangeSpec := { name := "cfaCompiles", fn := fun _ => fun
  | [d1, d2] => { results := [.lit (.bool false)], args := [d1, d2] }
  | _ => none }
def CfaCompilesWrongFalsely : Prop := cfaCompilesRow.holds Tryd.pinned (OpenSpec.ofChange cfaCompilesWrong)

/-- 'gangwaylaw13.CfaWrites': WHATEVER THE INPUT: true; the input reads as it did. -/
def cfaWritesSpec : ChangeSpec := { name := "cfaWrites", fn := fun _ => fun
  | [d] => { results := [.lit (.bool true)], args := [d] }
  | _ => none }
def cfaWritesRow : OpenClaim := { program := "ytgldijohpfihaaadoor", sum := "00d044c7e25bde8e1982246f0abe4c1f96436508fbcededa00235142b2f773f8", func := "gangway/gangwaylaw13.CfaWrites", spec := "cfaWrites", unfollowed := true, recurses := true, named := ["gangway/cfa.shapes"], apart := false, laid := [("gangway/cfa.shapes", laid_gangway_cfa_shapes)] }
def CfaWritesSaid : Prop := cfaWritesRow.holds Tryd.pinned (OpenSpec.ofChange cfaWritesSpec)

/-- ITS FALSE NEIGHBOUR: 'it returns false'. Refute it at one input. -/
def cfaWritesWrong : ChangeSpec := { name := "cfaWrites", fn := fun _ => fun
  | [d] => { results := [.lit (.bool false)], args := [d] }
  | _ => none }
def CfaWritesWrongFalsely : Prop := cfaWritesRow.holds Tryd.pinned (OpenSpec.ofChange cfaWritesWrong)

/-- 'gangwaylaw13.CfaReads': WHATEVER THE INPUT: true; the input reads as it did. -/
def cfaReadsSpec : ChangeSpec := { name := "cfaReads", fn := fun _ => fun
  | [d] => { results := [.lit (.bool true)], args := [d] }
  | _ => none }
def cfaReadsRow : OpenClaim := { program := "ytgldijohpfihaaadoor", sum := "00d044c7e25bde8e1982246f0abe4c1f96436508fbcededa00235142b2f773f8", func := "gangway/gangwaylaw13.CfaReads", spec := "cfaReads", unfollowed := true, recurses := true, named := ["gangway/cfa.shapes"], apart := false, laid := [("gangway/cfa.shapes", laid_gangway_cfa_shapes)] }
def CfaReadsSaid : Prop := cfaReadsRow.holds Tryd.pinned (OpenSpec.ofChange cfaReadsSpec)

/-- ITS FALSE NEIGHBOUR: 'it returns false'. Refute it at one input. -/
def cfaReadsWrong : ChangeSpec := { name := "cfaReads", fn := fun _ => fun
  | [d] => { results := [.lit (.bool false)], args := [d] }
  | _ => none }
def CfaReadsWrongFalsely : Prop := cfaReadsRow.holds Tryd.pinned (OpenSpec.ofChange cfaReadsWrong)

/-- 'gangwaylaw13.CfaBack': WHATEVER THE INPUT: true; the input reads as it did. -/
def cfaBackSpec : ChangeSpec := { name := "cfaBack", fn := fun _ => fun
  | [d] => { results := [.lit (.bool true)], args := [d] }
  | _ => none }
def cfaBackRow : OpenClaim := { program := "ytgldijohpfihaaadoor", sum := "00d044c7e25bde8e1982246f0abe4c1f96436508fbcededa00235142b2f773f8", func := "gangway/gangwaylaw13.CfaBack", spec := "cfaBack", unfollowed := true, recurses := true, named := ["gangway/cfa.shapes"], apart := false, laid := [("gangway/cfa.shapes", laid_gangway_cfa_shapes)] }
def CfaBackSaid : Prop := cfaBackRow.holds Tryd.pinned (OpenSpec.ofChange cfaBackSpec)

/-- ITS FALSE NEIGHBOUR: 'it returns false'. Refute it at one input. -/
def cfaBackWrong : ChangeSpec := { name := "cfaBack", fn := fun _ => fun
  | [d] => { results := [.lit (.bool false)], args := [d] }
  | _ => none }
def CfaBackWrongFalsely : Prop := cfaBackRow.holds Tryd.pinned (OpenSpec.ofChange cfaBackWrong)

/-- 'gangwaylaw13.CfaRise': WHATEVER THE INPUT: true; the input reads as it did. -/
def cfaRiseSpec : ChangeSpec := { name := "cfaRise", fn := fun _ => fun
  | [d1, d2, d3, d4] => { results := [.lit (.bool true)], args := [d1, d2, d3, d4] }
  | _ => none }
def cfaRiseRow : OpenClaim := { program := "ytgldijohpfihaaadoor", sum := "00d044c7e25bde8e1982246f0abe4c1f96436508fbcededa00235142b2f773f8", func := "gangway/gangwaylaw13.CfaRise", spec := "cfaRise", unfollowed := true, recurses := true, named := ["gangway/cfa.shapes"], apart := false, laid := [("gangway/cfa.shapes", laid_gangway_cfa_shapes)] }
def CfaRiseSaid : Prop := cfaRiseRow.holds Tryd.pinned (OpenSpec.ofChange cfaRiseSpec)

/-- ITS FALSE NEIGHBOUR: 'it returns false'. Refute it at one input. -/
def cfaRiseWrong : ChangeSpec := { name := "cfaRise", fn := fun _ => fun
  | [d1, d2, d3, d4] => { results := [.lit (.bool false)], args := [d1, d2, d3, d4] }
  | _ => none }
def CfaRiseWrongFalsely : Prop := cfaRiseRow.holds Tryd.pinned (OpenSpec.ofChange cfaRiseWrong)

/- THE SECOND FORM. 'bulk': how many values and letters a reading holds, each counted each time it is reached (what is shared counts as often as it is met; a slice's spare places count too). A statement '..UptoSaid' is the law's where the arguments, and the package variables that the reading takes, are together of bulk at most 1048576: NARROWER than '..Said'. Prove '..Said' where nothing that the law and all that it calls make is longer than what came in: it says more and counts as full. Else prove '..UptoSaid'. A law counts once. -/
mutual
def uptoBulk {H : Type} : DataW H → Nat
  | .lit (.string bytes) => bytes.length + 1
  | .lit _ => 1
  | .nil => 1
  | .ptr d => uptoBulk d + 1
  | .slice elems spare => uptoBulkAll elems + uptoBulkAll spare + 1
  | .agg parts => uptoBulkAll parts + 1
  | .iface _ d => uptoBulk d + 1
  | .map entries => uptoBulkEntries entries + 1
  | .held _ => 1
def uptoBulkAll {H : Type} : List (DataW H) → Nat
  | [] => 0
  | d :: r => uptoBulk d + uptoBulkAll r
def uptoBulkEntries {H : Type} : List (Lit × DataW H) → Nat
  | [] => 0
  | x :: r => uptoBulkEntry x + uptoBulkEntries r
def uptoBulkEntry {H : Type} : Lit × DataW H → Nat
  | (.string bytes, d) => bytes.length + uptoBulk d + 1
  | (_, d) => uptoBulk d + 1
 end
def uptoSmall : (H : Type) → List (DataW H) → Bool := fun _ ds => decide (uptoBulkAll ds ≤ 1048576)
def OpenSpec.upto (s : _root_.Go.ChangeSpec) : _root_.Go.OpenSpec := { _root_.Go.OpenSpec.ofChange s with cond := some uptoSmall }

/-- 'gangwaylaw13.CfaRows', WHERE WHAT IT READS IS OF BULK AT MOST 1048576: true; the input reads as it did. -/
def cfaRowsUptoRow : OpenClaim := { program := "ytgldijohpfihaaadoor", sum := "00d044c7e25bde8e1982246f0abe4c1f96436508fbcededa00235142b2f773f8", func := "gangway/gangwaylaw13.CfaRows", spec := "cfaRows", unfollowed := true, recurses := true, named := ["gangway/cfa.shapes"], apart := false, laid := [("gangway/cfa.shapes", laid_gangway_cfa_shapes)], narrowed := true }
def CfaRowsUptoSaid : Prop := cfaRowsUptoRow.holds Tryd.pinned (OpenSpec.upto cfaRowsSpec)

/-- 'gangwaylaw13.CfaCompiles', WHERE WHAT IT READS IS OF BULK AT MOST 1048576: true; the input reads as it did. -/
def cfaCompilesUptoRow : OpenClaim := { program := "ytgldijohpfihaaadoor", sum := "00d044c7e25bde8e1982246f0abe4c1f96436508fbcededa00235142b2f773f8", func := "gangway/gangwaylaw13.CfaCompiles", spec := "cfaCompiles", unfollowed := true, recurses := true, named := ["gangway/cfa.shapes"], apart := false, laid := [("gangway/cfa.shapes", laid_gangway_cfa_shapes)], narrowed := true }
def CfaCompilesUptoSaid : Prop := cfaCompilesUptoRow.holds Tryd.pinned (OpenSpec.upto cfaCompilesSpec)

/-- 'gangwaylaw13.CfaWrites', WHERE WHAT IT READS IS OF BULK AT MOST 1048576: true; the input reads as it did. -/
def cfaWritesUptoRow : OpenClaim := { program := "ytgldijohpfihaaadoor", sum := "00d044c7e25bde8e1982246f0abe4c1f96436508fbcededa00235142b2f773f8", func := "gangway/gangwaylaw13.CfaWrites", spec := "cfaWrites", unfollowed := true, recurses := true, named := ["gangway/cfa.shapes"], apart := false, laid := [("gangway/cfa.shapes", laid_gangway_cfa_shapes)], narrowed := true }
def CfaWritesUptoSaid : Prop := cfaWritesUptoRow.holds Tryd.pinned (OpenSpec.upto cfaWritesSpec)

/-- 'gangwaylaw13.CfaReads', WHERE WHAT IT READS IS OF BULK AT MOST 1048576: true; the input reads as it did. -/
def cfaReadsUptoRow : OpenClaim := { program := "ytgldijohpfihaaadoor", sum := "00d044c7e25bde8e1982246f0abe4c1f96436508fbcededa00235142b2f773f8", func := "gangway/gangwaylaw13.CfaReads", spec := "cfaReads", unfollowed := true, recurses := true, named := ["gangway/cfa.shapes"], apart := false, laid := [("gangway/cfa.shapes", laid_gangway_cfa_shapes)], narrowed := true }
def CfaReadsUptoSaid : Prop := cfaReadsUptoRow.holds Tryd.pinned (OpenSpec.upto cfaReadsSpec)

/-- 'gangwaylaw13.CfaBack', WHERE WHAT IT READS IS OF BULK AT MOST 1048576: true; the input reads as it did. -/
def cfaBackUptoRow : OpenClaim := { program := "ytgldijohpfihaaadoor", sum := "00d044c7e25bde8e1982246f0abe4c1f96436508fbcededa00235142b2f773f8", func := "gangway/gangwaylaw13.CfaBack", spec := "cfaBack", unfollowed := true, recurses := true, named := ["gangway/cfa.shapes"], apart := false, laid := [("gangway/cfa.shapes", laid_gangway_cfa_shapes)], narrowed := true }
def CfaBackUptoSaid : Prop := cfaBackUptoRow.holds Tryd.pinned (OpenSpec.upto cfaBackSpec)

/-- 'gangwaylaw13.CfaRise', WHERE WHAT IT READS IS OF BULK AT MOST 1048576: true; the input reads as it did. -/
def cfaRiseUptoRow : OpenClaim := { program := "ytgldijohpfihaaadoor", sum := "00d044c7e25bde8e1982246f0abe4c1f96436508fbcededa00235142b2f773f8", func := "gangway/gangwaylaw13.CfaRise", spec := "cfaRise", unfollowed := true, recurses := true, named := ["gangway/cfa.shapes"], apart := false, laid := [("gangway/cfa.shapes", laid_gangway_cfa_shapes)], narrowed := true }
def CfaRiseUptoSaid : Prop := cfaRiseUptoRow.holds Tryd.pinned (OpenSpec.upto cfaRiseSpec)

end Rows
end Go.Proofs.YtgldijohpfihaaaDoor
