/-
  No cell of these rows narrows 'for every input' (looked for: loops, veiled, ifaces, maps, wideKeys, modest, calm, conditions, laid).
  DERIVED. THE GIVEN ROWS OF THIS SEAT. 5 by the template 'for every input the law returns true; each argument reads behind the call as it read before'; 0 by the template 'total and deterministic' (their statements: YtjbepojopfbajaaTotals.lean).
  GIVEN WITH THE SEED: the statements are not yours to turn. If you find one false, say at which input.
  Laid BY PROGRAM, IN A SANDBOX (cutbox-rows.mjs): the forced cells as the released guide's own fill.sh prints them over the translation 40db372d9d4f931f… (all of the seat's roots in one cut). By AI agents, Wed Nov 11 2026. No macro, syntax, notation, axiom, sorry.
-/
import Derived.Test.YtjbepojopfbajaaChecked
import GoSem.Claim
import GoSem.ClaimJoined
import GoSem.ClaimMapViews
import Derived.JoinedTies
import Derived.KernelRfl
namespace Go.Proofs.Ytjbepojopfbajaa
/- THE CELL 'sum', in the pinned program and in every row, IS THE sha256 OF THE DUMP (.gsa) THAT YtjbepojopfbajaaProg.lean LOADS. Nothing in Lean hashes anything: it is a label: what it is worth is what the hold of that sum in a sandbox is worth. -/
noncomputable def Try.pinned : Pinned := { name := "ytjbepojopfbajaa", sum := "40db372d9d4f931f43e7db56f324029c69e4e638779ec6772bbc1c2f81f8aca3", checked := Try.checked }
namespace Rows
def none {H : Type} : Left H := { results := [], args := [] }

/-- 'gangwaylaw20.RelocValues': WHATEVER THE INPUT: true; the input reads as it did. -/
def relocValuesSpec : ChangeSpec := { name := "relocValues", fn := fun _ => fun
  | [d1, d2, d3] => { results := [.lit (.bool true)], args := [d1, d2, d3] }
  | _ => none }
def relocValuesRow : OpenClaim := { program := "ytjbepojopfbajaa", sum := "40db372d9d4f931f43e7db56f324029c69e4e638779ec6772bbc1c2f81f8aca3", func := "gangway/gangwaylaw20.RelocValues", spec := "relocValues", unfollowed := true, recurses := true, apart := false }
def RelocValuesSaid : Prop := relocValuesRow.holds Try.pinned (OpenSpec.ofChange relocValuesSpec)

/-- ITS FALSE NEIGHBOUR: 'it returns false'. Refute it at one input. -/
def relocValuesWrong : ChangeSpec := { name := "relocValues", fn := fun _ => fun
  | [d1, d2, d3] => { results := [.lit (.bool false)], args := [d1, d2, d3] }
  | _ => none }
def RelocValuesWrongFalsely : Prop := relocValuesRow.holds Try.pinned (OpenSpec.ofChange relocValuesWrong)

/-- 'gangwaylaw20.RelocApplies': WHATEVER THE INPUT: true; the input reads as it did. -/
def relocAppliesSpec : ChangeSpec := { name := "relocApplies", fn := fun _ => fun
  | [d1, d2, d3, d4] => { results := [.lit (.bool true)], args := [d1, d2, d3, d4] }
  | _ => none }
def relocAppliesRow : OpenClaim := { program := "ytjbepojopfbajaa", sum := "40db372d9d4f931f43e7db56f324029c69e4e638779ec6772bbc1c2f81f8aca3", func := "gangway/gangwaylaw20.RelocApplies", spec := "relocApplies", unfollowed := true, recurses := true, apart := false }
def RelocAppliesSaid : Prop := relocAppliesRow.holds Try.pinned (OpenSpec.ofChange relocAppliesSpec)

/-- ITS FALSE NEIGHBOUR: 'it returns false'. Refute it at one input. -/
def relocAppliesWrong : ChangeSpec := { name := "relocApplies", fn := fun _ => fun
  | [d1, d2, d3, d4] => { results := [.lit (.bool false)], args := [d1, d2, d3, d4] }
  | _ => none }
def RelocAppliesWrongFalsely : Prop := relocAppliesRow.holds Try.pinned (OpenSpec.ofChange relocAppliesWrong)

/-- 'gangwaylaw20.RelocMoved': WHATEVER THE INPUT: true; the input reads as it did. -/
def relocMovedSpec : ChangeSpec := { name := "relocMoved", fn := fun _ => fun
  | [d1, d2, d3] => { results := [.lit (.bool true)], args := [d1, d2, d3] }
  | _ => none }
def relocMovedRow : OpenClaim := { program := "ytjbepojopfbajaa", sum := "40db372d9d4f931f43e7db56f324029c69e4e638779ec6772bbc1c2f81f8aca3", func := "gangway/gangwaylaw20.RelocMoved", spec := "relocMoved", unfollowed := true, recurses := true, apart := false }
def RelocMovedSaid : Prop := relocMovedRow.holds Try.pinned (OpenSpec.ofChange relocMovedSpec)

/-- ITS FALSE NEIGHBOUR: 'it returns false'. Refute it at one input. -/
def relocMovedWrong : ChangeSpec := { name := "relocMoved", fn := fun _ => fun
  | [d1, d2, d3] => { results := [.lit (.bool false)], args := [d1, d2, d3] }
  | _ => none }
def RelocMovedWrongFalsely : Prop := relocMovedRow.holds Try.pinned (OpenSpec.ofChange relocMovedWrong)

/-- 'gangwaylaw20.RelocBack': WHATEVER THE INPUT: true; the input reads as it did. -/
def relocBackSpec : ChangeSpec := { name := "relocBack", fn := fun _ => fun
  | [d1, d2, d3, d4] => { results := [.lit (.bool true)], args := [d1, d2, d3, d4] }
  | _ => none }
def relocBackRow : OpenClaim := { program := "ytjbepojopfbajaa", sum := "40db372d9d4f931f43e7db56f324029c69e4e638779ec6772bbc1c2f81f8aca3", func := "gangway/gangwaylaw20.RelocBack", spec := "relocBack", unfollowed := true, recurses := true, apart := false }
def RelocBackSaid : Prop := relocBackRow.holds Try.pinned (OpenSpec.ofChange relocBackSpec)

/-- ITS FALSE NEIGHBOUR: 'it returns false'. Refute it at one input. -/
def relocBackWrong : ChangeSpec := { name := "relocBack", fn := fun _ => fun
  | [d1, d2, d3, d4] => { results := [.lit (.bool false)], args := [d1, d2, d3, d4] }
  | _ => none }
def RelocBackWrongFalsely : Prop := relocBackRow.holds Try.pinned (OpenSpec.ofChange relocBackWrong)

/-- 'gangwaylaw20.RelocRelaxed': WHATEVER THE INPUT: true; the input reads as it did. -/
def relocRelaxedSpec : ChangeSpec := { name := "relocRelaxed", fn := fun _ => fun
  | [d1, d2] => { results := [.lit (.bool true)], args := [d1, d2] }
  | _ => none }
def relocRelaxedRow : OpenClaim := { program := "ytjbepojopfbajaa", sum := "40db372d9d4f931f43e7db56f324029c69e4e638779ec6772bbc1c2f81f8aca3", func := "gangway/gangwaylaw20.RelocRelaxed", spec := "relocRelaxed", unfollowed := true, recurses := true, apart := false }
def RelocRelaxedSaid : Prop := relocRelaxedRow.holds Try.pinned (OpenSpec.ofChange relocRelaxedSpec)

/-- ITS FALSE NEIGHBOUR: 'it returns false'. Refute it at one input. -/
def relocRelaxedWrong : ChangeSpec := { name := "relocRelaxed", fn := fun _ => fun
  | [d1, d2] => { results := [.lit (.bool false)], args := [d1, d2] }
  | _ => none }
def RelocRelaxedWrongFalsely : Prop := relocRelaxedRow.holds Try.pinned (OpenSpec.ofChange relocRelaxedWrong)

/- THE SECOND FORM. 'bulk': how many values and letters a reading holds, each counted each time it is reached (what is shared counts as often as it is met; a slice's spare places count too). A statement '..UptoSaid' is the law's where the arguments, and the package variables that the reading takes, are together of bulk at most 1048576: NARROWER than '..Said'. Prove '..Said' where nothing that the law and all that it calls make is longer than what came in: it says more and counts as full. Else prove '..UptoSaid'. A law counts once. -/
mutual
def uptoBulk {H : Type} : DataW H → Nat
  | .lit (.string bytes) => bytes.length + 1
  | .lit _ => 1
  | .nil => 1
  | .ptr d => uptoBulk d + 1
  | .slice elems spare => uptoBulkAll elems + uptoBulkAll spare + 1
  | .agg parts => uptoBulkAll parts + 1
  | .iface _ d => uptoBulk d + 1
  | .map entries => uptoBulkEntries entries + 1
  | .held _ => 1
def uptoBulkAll {H : Type} : List (DataW H) → Nat
  | [] => 0
  | d :: r => uptoBulk d + uptoBulkAll r
def uptoBulkEntries {H : Type} : List (Lit × DataW H) → Nat
  | [] => 0
  | x :: r => uptoBulkEntry x + uptoBulkEntries r
def uptoBulkEntry {H : Type} : Lit × DataW H → Nat
  | (.string bytes, d) => bytes.length + uptoBulk d + 1
  | (_, d) => uptoBulk d + 1
 end
def uptoSmall : (H : Type) → List (DataW H) → Bool := fun _ ds => decide (uptoBulkAll ds ≤ 1048576)
def OpenSpec.upto (s : _root_.Go.ChangeSpec) : _root_.Go.OpenSpec := { _root_.Go.OpenSpec.ofChange s with cond := some uptoSmall }

/-- 'gangwaylaw20.RelocValues', WHERE WHAT IT READS IS OF BULK AT MOST 1048576: true; the input reads as it did. -/
def relocValuesUptoRow : OpenClaim := { program := "ytjbepojopfbajaa", sum := "40db372d9d4f931f43e7db56f324029c69e4e638779ec6772bbc1c2f81f8aca3", func := "gangway/gangwaylaw20.RelocValues", spec := "relocValues", unfollowed := true, recurses := true, apart := false, narrowed := true }
def RelocValuesUptoSaid : Prop := relocValuesUptoRow.holds Try.pinned (OpenSpec.upto relocValuesSpec)

/-- 'gangwaylaw20.RelocApplies', WHERE WHAT IT READS IS OF BULK AT MOST 1048576: true; the input reads as it did. -/
def relocAppliesUptoRow : OpenClaim := { program := "ytjbepojopfbajaa", sum := "40db372d9d4f931f43e7db56f324029c69e4e638779ec6772bbc1c2f81f8aca3", func := "gangway/gangwaylaw20.RelocApplies", spec := "relocApplies", unfollowed := true, recurses := true, apart := false, narrowed := true }
def RelocAppliesUptoSaid : Prop := relocAppliesUptoRow.holds Try.pinned (OpenSpec.upto relocAppliesSpec)

/-- 'gangwaylaw20.RelocMoved', WHERE WHAT IT READS IS OF BULK AT MOST 1048576: true; the input reads as it did. -/
def relocMovedUptoRow : OpenClaim := { program := "ytjbepojopfbajaa", sum := "40db372d9d4f931f43e7db56f324029c69e4e638779ec6772bbc1c2f81f8aca3", func := "gangway/gangwaylaw20.RelocMoved", spec := "relocMoved", unfollowed := true, recurses := true, apart := false, narrowed := true }
def RelocMovedUptoSaid : Prop := relocMovedUptoRow.holds Try.pinned (OpenSpec.upto relocMovedSpec)

/-- 'gangwaylaw20.RelocBack', WHERE WHAT IT READS IS OF BULK AT MOST 1048576: true; the input reads as it did. -/
def relocBackUptoRow : OpenClaim := { program := "ytjbepojopfbajaa", sum := "40db372d9d4f931f43e7db56f324029c69e4e638779ec6772bbc1c2f81f8aca3", func := "gangway/gangwaylaw20.RelocBack", spec := "relocBack", unfollowed := true, recurses := true, apart := false, narrowed := true }
def RelocBackUptoSaid : Prop := relocBackUptoRow.holds Try.pinned (OpenSpec.upto relocBackSpec)

/-- 'gangwaylaw20.RelocRelaxed', WHERE WHAT IT READS IS OF BULK AT MOST 1048576: true; the input reads as it did. -/
def relocRelaxedUptoRow : OpenClaim := { program := "ytjbepojopfbajaa", sum := "40db372d9d4f931f43e7db56f324029c69e4e638779ec6772bbc1c2f81f8aca3", func := "gangway/gangwaylaw20.RelocRelaxed", spec := "relocRelaxed", unfollowed := true, recurses := true, apart := false, narrowed := true }
def RelocRelaxedUptoSaid : Prop := relocRelaxedUptoRow.holds Try.pinned (OpenSpec.upto relocRelaxedSpec)

end Rows
end Go.Proofs.Ytjbepojopfbajaa
