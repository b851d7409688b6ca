/-
  NARROWER THAN 'FOR EVERY INPUT', by the rows' own cells (each row's printed sentence says how): AluSums: laid · AluBits: laid · AluShifts: laid · AluProducts: laid · AluFlags: laid · AluOrder: laid.
  DERIVED. THE GIVEN ROWS OF THIS SEAT. 6 by the template 'for every input the law returns true; each argument reads behind the call as it read before'; 0 by the template 'total and deterministic' (their statements: YtbfkmnlbmlpogaaDoorTotals.lean).
  GIVEN WITH THE SEED: the statements are not yours to turn. If you find one false, say at which input.
  Laid BY PROGRAM, IN A SANDBOX (cutbox-rows.mjs): the forced cells as the released guide's own fill.sh prints them over the translation 3398e1779da9e2a6… (all of the seat's roots in one cut). By AI agents, Wed Nov 11 2026. No macro, syntax, notation, axiom, sorry.
-/
import Derived.Test.YtbfkmnlbmlpogaaDoorChecked
import GoSem.Claim
import GoSem.ClaimJoined
import GoSem.ClaimMapViews
import Derived.JoinedTies
import Derived.KernelRfl
namespace Go.Proofs.YtbfkmnlbmlpogaaDoor
/- THE CELL 'sum', in the pinned program and in every row, IS THE sha256 OF THE DUMP (.gsa) THAT YtbfkmnlbmlpogaaDoorProg.lean LOADS. Nothing in Lean hashes anything: it is a label: what it is worth is what the hold of that sum in a sandbox is worth. -/
noncomputable def Tryd.pinned : Pinned := { name := "ytbfkmnlbmlpogaadoor", sum := "3398e1779da9e2a6ba2dc6af9fd1995e65b429ee4b8039d0c77b88861a77a475", checked := Tryd.checked }
namespace Rows
def none {H : Type} : Left H := { results := [], args := [] }

/- WHAT THE LISTED PACKAGE-LEVEL VARIABLES READ AS WHEN THE CALL BEGINS. Each datum BY PROGRAM (the guide's laid-datum.mjs) off the statement by which the dump's own 'gosem.cut.vars' lays the variable. In a bare row this is a premise. The card (YtbfkmnlbmlpogaaDoorCards.lean) ties it to the program's text. -/
def laid_gangway_alu_widths {H : Type} : DataW H := .agg [.agg [.lit (.int .i64 1), .lit (.int .i64 8), .lit (.int .i64 31)], .agg [.lit (.int .i64 4), .lit (.int .i64 32), .lit (.int .i64 31)], .agg [.lit (.int .i64 8), .lit (.int .i64 64), .lit (.int .i64 63)]]

/-- 'gangwaylaw02.AluSums': WHATEVER THE INPUT: true; the input reads as it did. -/
def aluSumsSpec : ChangeSpec := { name := "aluSums", fn := fun _ => fun
  | [d1, d2, d3, d4] => { results := [.lit (.bool true)], args := [d1, d2, d3, d4] }
  | _ => none }
def aluSumsRow : OpenClaim := { program := "ytbfkmnlbmlpogaadoor", sum := "3398e1779da9e2a6ba2dc6af9fd1995e65b429ee4b8039d0c77b88861a77a475", func := "gangway/gangwaylaw02.AluSums", spec := "aluSums", unfollowed := true, recurses := true, named := ["gangway/alu.widths"], apart := false, laid := [("gangway/alu.widths", laid_gangway_alu_widths)] }
def AluSumsSaid : Prop := aluSumsRow.holds Tryd.pinned (OpenSpec.ofChange aluSumsSpec)

/-- ITS FALSE NEIGHBOUR: 'it returns false'. Refute it at one input. -/
def aluSumsWrong : ChangeSpec := { name := "aluSums", fn := fun _ => fun
  | [d1, d2, d3, d4] => { results := [.lit (.bool false)], args := [d1, d2, d3, d4] }
  | _ => none }
def AluSumsWrongFalsely : Prop := aluSumsRow.holds Tryd.pinned (OpenSpec.ofChange aluSumsWrong)

/-- 'gangwaylaw02.AluBits': WHATEVER THE INPUT: true; the input reads as it did. -/
def aluBitsSpec : ChangeSpec := { name := "aluBits", fn := fun _ => fun
  | [d1, d2, d3, d4, d5] => { results := [.lit (.bool true)], args := [d1, d2, d3, d4, d5] }
  | _ => none }
def aluBitsRow : OpenClaim := { program := "ytbfkmnlbmlpogaadoor", sum := "3398e1779da9e2a6ba2dc6af9fd1995e65b429ee4b8039d0c77b88861a77a475", func := "gangway/gangwaylaw02.AluBits", spec := "aluBits", unfollowed := true, recurses := true, named := ["gangway/alu.widths"], apart := false, laid := [("gangway/alu.widths", laid_gangway_alu_widths)] }
def AluBitsSaid : Prop := aluBitsRow.holds Tryd.pinned (OpenSpec.ofChange aluBitsSpec)

/-- ITS FALSE NEIGHBOUR: 'it returns false'. Refute it at one input. -/
def aluBitsWrong : ChangeSpec := { name := "aluBits", fn := fun _ => fun
  | [d1, d2, d3, d4, d5] => { results := [.lit (.bool false)], args := [d1, d2, d3, d4, d5] }
  | _ => none }
def AluBitsWrongFalsely : Prop := aluBitsRow.holds Tryd.pinned (OpenSpec.ofChange aluBitsWrong)

/-- 'gangwaylaw02.AluShifts': WHATEVER THE INPUT: true; the input reads as it did. -/
def aluShiftsSpec : ChangeSpec := { name := "aluShifts", fn := fun _ => fun
  | [d1, d2, d3, d4, d5] => { results := [.lit (.bool true)], args := [d1, d2, d3, d4, d5] }
  | _ => none }
def aluShiftsRow : OpenClaim := { program := "ytbfkmnlbmlpogaadoor", sum := "3398e1779da9e2a6ba2dc6af9fd1995e65b429ee4b8039d0c77b88861a77a475", func := "gangway/gangwaylaw02.AluShifts", spec := "aluShifts", unfollowed := true, recurses := true, named := ["gangway/alu.widths"], apart := false, laid := [("gangway/alu.widths", laid_gangway_alu_widths)] }
def AluShiftsSaid : Prop := aluShiftsRow.holds Tryd.pinned (OpenSpec.ofChange aluShiftsSpec)

/-- ITS FALSE NEIGHBOUR: 'it returns false'. Refute it at one input. -/
def aluShiftsWrong : ChangeSpec := { name := "aluShifts", fn := fun _ => fun
  | [d1, d2, d3, d4, d5] => { results := [.lit (.bool false)], args := [d1, d2, d3, d4, d5] }
  | _ => none }
def AluShiftsWrongFalsely : Prop := aluShiftsRow.holds Tryd.pinned (OpenSpec.ofChange aluShiftsWrong)

/-- 'gangwaylaw02.AluProducts': WHATEVER THE INPUT: true; the input reads as it did. -/
def aluProductsSpec : ChangeSpec := { name := "aluProducts", fn := fun _ => fun
  | [d1, d2, d3] => { results := [.lit (.bool true)], args := [d1, d2, d3] }
  | _ => none }
def aluProductsRow : OpenClaim := { program := "ytbfkmnlbmlpogaadoor", sum := "3398e1779da9e2a6ba2dc6af9fd1995e65b429ee4b8039d0c77b88861a77a475", func := "gangway/gangwaylaw02.AluProducts", spec := "aluProducts", unfollowed := true, recurses := true, named := ["gangway/alu.widths"], apart := false, laid := [("gangway/alu.widths", laid_gangway_alu_widths)] }
def AluProductsSaid : Prop := aluProductsRow.holds Tryd.pinned (OpenSpec.ofChange aluProductsSpec)

/-- ITS FALSE NEIGHBOUR: 'it returns false'. Refute it at one input. -/
def aluProductsWrong : ChangeSpec := { name := "aluProducts", fn := fun _ => fun
  | [d1, d2, d3] => { results := [.lit (.bool false)], args := [d1, d2, d3] }
  | _ => none }
def AluProductsWrongFalsely : Prop := aluProductsRow.holds Tryd.pinned (OpenSpec.ofChange aluProductsWrong)

/-- 'gangwaylaw02.AluFlags': WHATEVER THE INPUT: true; the input reads as it did. -/
def aluFlagsSpec : ChangeSpec := { name := "aluFlags", fn := fun _ => fun
  | [d1, d2, d3] => { results := [.lit (.bool true)], args := [d1, d2, d3] }
  | _ => none }
def aluFlagsRow : OpenClaim := { program := "ytbfkmnlbmlpogaadoor", sum := "3398e1779da9e2a6ba2dc6af9fd1995e65b429ee4b8039d0c77b88861a77a475", func := "gangway/gangwaylaw02.AluFlags", spec := "aluFlags", unfollowed := true, recurses := true, named := ["gangway/alu.widths"], apart := false, laid := [("gangway/alu.widths", laid_gangway_alu_widths)] }
def AluFlagsSaid : Prop := aluFlagsRow.holds Tryd.pinned (OpenSpec.ofChange aluFlagsSpec)

/-- ITS FALSE NEIGHBOUR: 'it returns false'. Refute it at one input. -/
def aluFlagsWrong : ChangeSpec := { name := "aluFlags", fn := fun _ => fun
  | [d1, d2, d3] => { results := [.lit (.bool false)], args := [d1, d2, d3] }
  | _ => none }
def AluFlagsWrongFalsely : Prop := aluFlagsRow.holds Tryd.pinned (OpenSpec.ofChange aluFlagsWrong)

/-- 'gangwaylaw02.AluOrder': WHATEVER THE INPUT: true; the input reads as it did. -/
def aluOrderSpec : ChangeSpec := { name := "aluOrder", fn := fun _ => fun
  | [d1, d2, d3] => { results := [.lit (.bool true)], args := [d1, d2, d3] }
  | _ => none }
def aluOrderRow : OpenClaim := { program := "ytbfkmnlbmlpogaadoor", sum := "3398e1779da9e2a6ba2dc6af9fd1995e65b429ee4b8039d0c77b88861a77a475", func := "gangway/gangwaylaw02.AluOrder", spec := "aluOrder", unfollowed := true, recurses := true, named := ["gangway/alu.widths"], apart := false, laid := [("gangway/alu.widths", laid_gangway_alu_widths)] }
def AluOrderSaid : Prop := aluOrderRow.holds Tryd.pinned (OpenSpec.ofChange aluOrderSpec)

/-- ITS FALSE NEIGHBOUR: 'it returns false'. Refute it at one input. -/
def aluOrderWrong : ChangeSpec := { name := "aluOrder", fn := fun _ => fun
  | [d1, d2, d3] => { results := [.lit (.bool false)], args := [d1, d2, d3] }
  | _ => none }
def AluOrderWrongFalsely : Prop := aluOrderRow.holds Tryd.pinned (OpenSpec.ofChange aluOrderWrong)

/- THE SECOND FORM. 'bulk': how many values and letters a reading holds, each counted each time it is reached (what is shared counts as often as it is met; a slice's spare places count too). A statement '..UptoSaid' is the law's where the arguments, and the package variables that the reading takes, are together of bulk at most 1048576: NARROWER than '..Said'. Prove '..Said' where nothing that the law and all that it calls make is longer than what came in: it says more and counts as full. Else prove '..UptoSaid'. A law counts once. -/
mutual
def uptoBulk {H : Type} : DataW H → Nat
  | .lit (.string bytes) => bytes.length + 1
  | .lit _ => 1
  | .nil => 1
  | .ptr d => uptoBulk d + 1
  | .slice elems spare => uptoBulkAll elems + uptoBulkAll spare + 1
  | .agg parts => uptoBulkAll parts + 1
  | .iface _ d => uptoBulk d + 1
  | .map entries => uptoBulkEntries entries + 1
  | .held _ => 1
def uptoBulkAll {H : Type} : List (DataW H) → Nat
  | [] => 0
  | d :: r => uptoBulk d + uptoBulkAll r
def uptoBulkEntries {H : Type} : List (Lit × DataW H) → Nat
  | [] => 0
  | x :: r => uptoBulkEntry x + uptoBulkEntries r
def uptoBulkEntry {H : Type} : Lit × DataW H → Nat
  | (.string bytes, d) => bytes.length + uptoBulk d + 1
  | (_, d) => uptoBulk d + 1
 end
def uptoSmall : (H : Type) → List (DataW H) → Bool := fun _ ds => decide (uptoBulkAll ds ≤ 1048576)
def OpenSpec.upto (s : _root_.Go.ChangeSpec) : _root_.Go.OpenSpec := { _root_.Go.OpenSpec.ofChange s with cond := some uptoSmall }

/-- 'gangwaylaw02.AluSums', WHERE WHAT IT READS IS OF BULK AT MOST 1048576: true; the input reads as it did. -/
def aluSumsUptoRow : OpenClaim := { program := "ytbfkmnlbmlpogaadoor", sum := "3398e1779da9e2a6ba2dc6af9fd1995e65b429ee4b8039d0c77b88861a77a475", func := "gangway/gangwaylaw02.AluSums", spec := "aluSums", unfollowed := true, recurses := true, named := ["gangway/alu.widths"], apart := false, laid := [("gangway/alu.widths", laid_gangway_alu_widths)], narrowed := true }
def AluSumsUptoSaid : Prop := aluSumsUptoRow.holds Tryd.pinned (OpenSpec.upto aluSumsSpec)

/-- 'gangwaylaw02.AluBits', WHERE WHAT IT READS IS OF BULK AT MOST 1048576: true; the input reads as it did. -/
def aluBitsUptoRow : OpenClaim := { program := "ytbfkmnlbmlpogaadoor", sum := "3398e1779da9e2a6ba2dc6af9fd1995e65b429ee4b8039d0c77b88861a77a475", func := "gangway/gangwaylaw02.AluBits", spec := "aluBits", unfollowed := true, recurses := true, named := ["gangway/alu.widths"], apart := false, laid := [("gangway/alu.widths", laid_gangway_alu_widths)], narrowed := true }
def AluBitsUptoSaid : Prop := aluBitsUptoRow.holds Tryd.pinned (OpenSpec.upto aluBitsSpec)

/-- 'gangwaylaw02.AluShifts', WHERE WHAT IT READS IS OF BULK AT MOST 1048576: true; the input reads as it did. -/
def aluShiftsUptoRow : OpenClaim := { program := "ytbfkmnlbmlpogaadoor", sum := "3398e1779da9e2a6ba2dc6af9fd1995e65b429ee4b8039d0c77b88861a77a475", func := "gangway/gangwaylaw02.AluShifts", spec := "aluShifts", unfollowed := true, recurses := true, named := ["gangway/alu.widths"], apart := false, laid := [("gangway/alu.widths", laid_gangway_alu_widths)], narrowed := true }
def AluShiftsUptoSaid : Prop := aluShiftsUptoRow.holds Tryd.pinned (OpenSpec.upto aluShiftsSpec)

/-- 'gangwaylaw02.AluProducts', WHERE WHAT IT READS IS OF BULK AT MOST 1048576: true; the input reads as it did. -/
def aluProductsUptoRow : OpenClaim := { program := "ytbfkmnlbmlpogaadoor", sum := "3398e1779da9e2a6ba2dc6af9fd1995e65b429ee4b8039d0c77b88861a77a475", func := "gangway/gangwaylaw02.AluProducts", spec := "aluProducts", unfollowed := true, recurses := true, named := ["gangway/alu.widths"], apart := false, laid := [("gangway/alu.widths", laid_gangway_alu_widths)], narrowed := true }
def AluProductsUptoSaid : Prop := aluProductsUptoRow.holds Tryd.pinned (OpenSpec.upto aluProductsSpec)

/-- 'gangwaylaw02.AluFlags', WHERE WHAT IT READS IS OF BULK AT MOST 1048576: true; the input reads as it did. -/
def aluFlagsUptoRow : OpenClaim := { program := "ytbfkmnlbmlpogaadoor", sum := "3398e1779da9e2a6ba2dc6af9fd1995e65b429ee4b8039d0c77b88861a77a475", func := "gangway/gangwaylaw02.AluFlags", spec := "aluFlags", unfollowed := true, recurses := true, named := ["gangway/alu.widths"], apart := false, laid := [("gangway/alu.widths", laid_gangway_alu_widths)], narrowed := true }
def AluFlagsUptoSaid : Prop := aluFlagsUptoRow.holds Tryd.pinned (OpenSpec.upto aluFlagsSpec)

/-- 'gangwaylaw02.AluOrder', WHERE WHAT IT READS IS OF BULK AT MOST 1048576: true; the input reads as it did. -/
def aluOrderUptoRow : OpenClaim := { program := "ytbfkmnlbmlpogaadoor", sum := "3398e1779da9e2a6ba2dc6af9fd1995e65b429ee4b8039d0c77b88861a77a475", func := "gangway/gangwaylaw02.AluOrder", spec := "aluOrder", unfollowed := true, recurses := true, named := ["gangway/alu.widths"], apart := false, laid := [("gangway/alu.widths", laid_gangway_alu_widths)], narrowed := true }
def AluOrderUptoSaid : Prop := aluOrderUptoRow.holds Tryd.pinned (OpenSpec.upto aluOrderSpec)

end Rows
end Go.Proofs.YtbfkmnlbmlpogaaDoor
