/-
  NARROWER THAN 'FOR EVERY INPUT', by the rows' own cells (each row's printed sentence says how): AluHalves: laid · AluBack: laid · AluPowers: laid.
  DERIVED. THE GIVEN ROWS OF THIS SEAT. 3 by the template 'for every input the law returns true; each argument reads behind the call as it read before'; 0 by the template 'total and deterministic' (their statements: YtbfkmnlbmlpogabDoorTotals.lean).
  GIVEN WITH THE SEED: the statements are not yours to turn. If you find one false, say at which input.
  Laid BY PROGRAM, IN A SANDBOX (cutbox-rows.mjs): the forced cells as the released guide's own fill.sh prints them over the translation adcd3f0f36eea968… (all of the seat's roots in one cut). By AI agents, Wed Nov 11 2026. No macro, syntax, notation, axiom, sorry.
-/
import Derived.Test.YtbfkmnlbmlpogabDoorChecked
import GoSem.Claim
import GoSem.ClaimJoined
import GoSem.ClaimMapViews
import Derived.JoinedTies
import Derived.KernelRfl
namespace Go.Proofs.YtbfkmnlbmlpogabDoor
/- THE CELL 'sum', in the pinned program and in every row, IS THE sha256 OF THE DUMP (.gsa) THAT YtbfkmnlbmlpogabDoorProg.lean LOADS. Nothing in Lean hashes anything: it is a label: what it is worth is what the hold of that sum in a sandbox is worth. -/
noncomputable def Tryd.pinned : Pinned := { name := "ytbfkmnlbmlpogabdoor", sum := "adcd3f0f36eea96824ca4f1ef3fb4ed11b4764856de66f090e0941f191766793", checked := Tryd.checked }
namespace Rows
def none {H : Type} : Left H := { results := [], args := [] }

/- WHAT THE LISTED PACKAGE-LEVEL VARIABLES READ AS WHEN THE CALL BEGINS. Each datum BY PROGRAM (the guide's laid-datum.mjs) off the statement by which the dump's own 'gosem.cut.vars' lays the variable. In a bare row this is a premise. The card (YtbfkmnlbmlpogabDoorCards.lean) ties it to the program's text. -/
def laid_gangway_alu_widths {H : Type} : DataW H := .agg [.agg [.lit (.int .i64 1), .lit (.int .i64 8), .lit (.int .i64 31)], .agg [.lit (.int .i64 4), .lit (.int .i64 32), .lit (.int .i64 31)], .agg [.lit (.int .i64 8), .lit (.int .i64 64), .lit (.int .i64 63)]]

/-- 'gangwaylaw02.AluHalves': WHATEVER THE INPUT: true; the input reads as it did. -/
def aluHalvesSpec : ChangeSpec := { name := "aluHalves", fn := fun _ => fun
  | [d1, d2] => { results := [.lit (.bool true)], args := [d1, d2] }
  | _ => none }
def aluHalvesRow : OpenClaim := { program := "ytbfkmnlbmlpogabdoor", sum := "adcd3f0f36eea96824ca4f1ef3fb4ed11b4764856de66f090e0941f191766793", func := "gangway/gangwaylaw02.AluHalves", spec := "aluHalves", unfollowed := true, recurses := true, named := ["gangway/alu.widths"], apart := false, laid := [("gangway/alu.widths", laid_gangway_alu_widths)] }
def AluHalvesSaid : Prop := aluHalvesRow.holds Tryd.pinned (OpenSpec.ofChange aluHalvesSpec)

/-- ITS FALSE NEIGHBOUR: 'it returns false'. Refute it at one input. -/
def aluHalvesWrong : ChangeSpec := { name := "aluHalves", fn := fun _ => fun
  | [d1, d2] => { results := [.lit (.bool false)], args := [d1, d2] }
  | _ => none }
def AluHalvesWrongFalsely : Prop := aluHalvesRow.holds Tryd.pinned (OpenSpec.ofChange aluHalvesWrong)

/-- 'gangwaylaw02.AluBack': WHATEVER THE INPUT: true; the input reads as it did. -/
def aluBackSpec : ChangeSpec := { name := "aluBack", fn := fun _ => fun
  | [d1, d2, d3] => { results := [.lit (.bool true)], args := [d1, d2, d3] }
  | _ => none }
def aluBackRow : OpenClaim := { program := "ytbfkmnlbmlpogabdoor", sum := "adcd3f0f36eea96824ca4f1ef3fb4ed11b4764856de66f090e0941f191766793", func := "gangway/gangwaylaw02.AluBack", spec := "aluBack", unfollowed := true, recurses := true, named := ["gangway/alu.widths"], apart := false, laid := [("gangway/alu.widths", laid_gangway_alu_widths)] }
def AluBackSaid : Prop := aluBackRow.holds Tryd.pinned (OpenSpec.ofChange aluBackSpec)

/-- ITS FALSE NEIGHBOUR: 'it returns false'. Refute it at one input. -/
def aluBackWrong : ChangeSpec := { name := "aluBack", fn := fun _ => fun
  | [d1, d2, d3] => { results := [.lit (.bool false)], args := [d1, d2, d3] }
  | _ => none }
def AluBackWrongFalsely : Prop := aluBackRow.holds Tryd.pinned (OpenSpec.ofChange aluBackWrong)

/-- 'gangwaylaw02.AluPowers': WHATEVER THE INPUT: true; the input reads as it did. -/
def aluPowersSpec : ChangeSpec := { name := "aluPowers", fn := fun _ => fun
  | [d1, d2, d3] => { results := [.lit (.bool true)], args := [d1, d2, d3] }
  | _ => none }
def aluPowersRow : OpenClaim := { program := "ytbfkmnlbmlpogabdoor", sum := "adcd3f0f36eea96824ca4f1ef3fb4ed11b4764856de66f090e0941f191766793", func := "gangway/gangwaylaw02.AluPowers", spec := "aluPowers", unfollowed := true, recurses := true, named := ["gangway/alu.widths"], apart := false, laid := [("gangway/alu.widths", laid_gangway_alu_widths)] }
def AluPowersSaid : Prop := aluPowersRow.holds Tryd.pinned (OpenSpec.ofChange aluPowersSpec)

/-- ITS FALSE NEIGHBOUR: 'it returns false'. Refute it at one input. -/
def aluPowersWrong : ChangeSpec := { name := "aluPowers", fn := fun _ => fun
  | [d1, d2, d3] => { results := [.lit (.bool false)], args := [d1, d2, d3] }
  | _ => none }
def AluPowersWrongFalsely : Prop := aluPowersRow.holds Tryd.pinned (OpenSpec.ofChange aluPowersWrong)

/- THE SECOND FORM. 'bulk': how many values and letters a reading holds, each counted each time it is reached (what is shared counts as often as it is met; a slice's spare places count too). A statement '..UptoSaid' is the law's where the arguments, and the package variables that the reading takes, are together of bulk at most 1048576: NARROWER than '..Said'. Prove '..Said' where nothing that the law and all that it calls make is longer than what came in: it says more and counts as full. Else prove '..UptoSaid'. A law counts once. -/
mutual
def uptoBulk {H : Type} : DataW H → Nat
  | .lit (.string bytes) => bytes.length + 1
  | .lit _ => 1
  | .nil => 1
  | .ptr d => uptoBulk d + 1
  | .slice elems spare => uptoBulkAll elems + uptoBulkAll spare + 1
  | .agg parts => uptoBulkAll parts + 1
  | .iface _ d => uptoBulk d + 1
  | .map entries => uptoBulkEntries entries + 1
  | .held _ => 1
def uptoBulkAll {H : Type} : List (DataW H) → Nat
  | [] => 0
  | d :: r => uptoBulk d + uptoBulkAll r
def uptoBulkEntries {H : Type} : List (Lit × DataW H) → Nat
  | [] => 0
  | x :: r => uptoBulkEntry x + uptoBulkEntries r
def uptoBulkEntry {H : Type} : Lit × DataW H → Nat
  | (.string bytes, d) => bytes.length + uptoBulk d + 1
  | (_, d) => uptoBulk d + 1
 end
def uptoSmall : (H : Type) → List (DataW H) → Bool := fun _ ds => decide (uptoBulkAll ds ≤ 1048576)
def OpenSpec.upto (s : _root_.Go.ChangeSpec) : _root_.Go.OpenSpec := { _root_.Go.OpenSpec.ofChange s with cond := some uptoSmall }

/-- 'gangwaylaw02.AluHalves', WHERE WHAT IT READS IS OF BULK AT MOST 1048576: true; the input reads as it did. -/
def aluHalvesUptoRow : OpenClaim := { program := "ytbfkmnlbmlpogabdoor", sum := "adcd3f0f36eea96824ca4f1ef3fb4ed11b4764856de66f090e0941f191766793", func := "gangway/gangwaylaw02.AluHalves", spec := "aluHalves", unfollowed := true, recurses := true, named := ["gangway/alu.widths"], apart := false, laid := [("gangway/alu.widths", laid_gangway_alu_widths)], narrowed := true }
def AluHalvesUptoSaid : Prop := aluHalvesUptoRow.holds Tryd.pinned (OpenSpec.upto aluHalvesSpec)

/-- 'gangwaylaw02.AluBack', WHERE WHAT IT READS IS OF BULK AT MOST 1048576: true; the input reads as it did. -/
def aluBackUptoRow : OpenClaim := { program := "ytbfkmnlbmlpogabdoor", sum := "adcd3f0f36eea96824ca4f1ef3fb4ed11b4764856de66f090e0941f191766793", func := "gangway/gangwaylaw02.AluBack", spec := "aluBack", unfollowed := true, recurses := true, named := ["gangway/alu.widths"], apart := false, laid := [("gangway/alu.widths", laid_gangway_alu_widths)], narrowed := true }
def AluBackUptoSaid : Prop := aluBackUptoRow.holds Tryd.pinned (OpenSpec.upto aluBackSpec)

/-- 'gangwaylaw02.AluPowers', WHERE WHAT IT READS IS OF BULK AT MOST 1048576: true; the input reads as it did. -/
def aluPowersUptoRow : OpenClaim := { program := "ytbfkmnlbmlpogabdoor", sum := "adcd3f0f36eea96824ca4f1ef3fb4ed11b4764856de66f090e0941f191766793", func := "gangway/gangwaylaw02.AluPowers", spec := "aluPowers", unfollowed := true, recurses := true, named := ["gangway/alu.widths"], apart := false, laid := [("gangway/alu.widths", laid_gangway_alu_widths)], narrowed := true }
def AluPowersUptoSaid : Prop := aluPowersUptoRow.holds Tryd.pinned (OpenSpec.upto aluPowersSpec)

end Rows
end Go.Proofs.YtbfkmnlbmlpogabDoor
