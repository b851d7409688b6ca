/-
  No cell of these rows narrows 'for every input' (looked for: loops, veiled, ifaces, maps, wideKeys, modest, calm, conditions, laid).
  DERIVED. THE GIVEN ROWS OF THIS SEAT. 3 by the template 'for every input the law returns true; each argument reads behind the call as it read before'; 0 by the template 'total and deterministic' (their statements: YtbcfcbnlfbhgjaaTotals.lean).
  GIVEN WITH THE SEED: the statements are not yours to turn. If you find one false, say at which input.
  Laid BY PROGRAM, IN A SANDBOX (cutbox-rows.mjs): the forced cells as the released guide's own fill.sh prints them over the translation cda217af9607c9f2… (all of the seat's roots in one cut). By AI agents, Wed Nov 11 2026. No macro, syntax, notation, axiom, sorry.
-/
import Derived.Test.YtbcfcbnlfbhgjaaChecked
import GoSem.Claim
import GoSem.ClaimJoined
import GoSem.ClaimMapViews
import Derived.JoinedTies
import Derived.KernelRfl
namespace Go.Proofs.Ytbcfcbnlfbhgjaa
/- THE CELL 'sum', in the pinned program and in every row, IS THE sha256 OF THE DUMP (.gsa) THAT YtbcfcbnlfbhgjaaProg.lean LOADS. Nothing in Lean hashes anything: it is a label: what it is worth is what the hold of that sum in a sandbox is worth. -/
noncomputable def Try.pinned : Pinned := { name := "ytbcfcbnlfbhgjaa", sum := "cda217af9607c9f234586949aa42bb8292728d1c74902dd97670fb37448cf683", checked := Try.checked }
namespace Rows
def none {H : Type} : Left H := { results := [], args := [] }

/-- 'gangwaylaw05.DecodeOnes': WHATEVER THE INPUT: true; the input reads as it did. -/
def decodeOnesSpec : ChangeSpec := { name := "decodeOnes", fn := fun _ => fun
  | [d1, d2] => { results := [.lit (.bool true)], args := [d1, d2] }
  | _ => none }
def decodeOnesRow : OpenClaim := { program := "ytbcfcbnlfbhgjaa", sum := "cda217af9607c9f234586949aa42bb8292728d1c74902dd97670fb37448cf683", func := "gangway/gangwaylaw05.DecodeOnes", spec := "decodeOnes", unfollowed := true, recurses := true, apart := false }
def DecodeOnesSaid : Prop := decodeOnesRow.holds Try.pinned (OpenSpec.ofChange decodeOnesSpec)

/-- ITS FALSE NEIGHBOUR: 'it returns false'. Refute it at one input. -/
def decodeOnesWrong : ChangeSpec := { name := "decodeOnes", fn := fun _ => fun
  | [d1, d2] => { results := [.lit (.bool false)], args := [d1, d2] }
  | _ => none }
def DecodeOnesWrongFalsely : Prop := decodeOnesRow.holds Try.pinned (OpenSpec.ofChange decodeOnesWrong)

/-- 'gangwaylaw05.DecodeAll': WHATEVER THE INPUT: true; the input reads as it did. -/
def decodeAllSpec : ChangeSpec := { name := "decodeAll", fn := fun _ => fun
  | [d] => { results := [.lit (.bool true)], args := [d] }
  | _ => none }
def decodeAllRow : OpenClaim := { program := "ytbcfcbnlfbhgjaa", sum := "cda217af9607c9f234586949aa42bb8292728d1c74902dd97670fb37448cf683", func := "gangway/gangwaylaw05.DecodeAll", spec := "decodeAll", unfollowed := true, recurses := true, apart := false }
def DecodeAllSaid : Prop := decodeAllRow.holds Try.pinned (OpenSpec.ofChange decodeAllSpec)

/-- ITS FALSE NEIGHBOUR: 'it returns false'. Refute it at one input. -/
def decodeAllWrong : ChangeSpec := { name := "decodeAll", fn := fun _ => fun
  | [d] => { results := [.lit (.bool false)], args := [d] }
  | _ => none }
def DecodeAllWrongFalsely : Prop := decodeAllRow.holds Try.pinned (OpenSpec.ofChange decodeAllWrong)

/-- 'gangwaylaw05.DecodeJoined': WHATEVER THE INPUT: true; the input reads as it did. -/
def decodeJoinedSpec : ChangeSpec := { name := "decodeJoined", fn := fun _ => fun
  | [d1, d2] => { results := [.lit (.bool true)], args := [d1, d2] }
  | _ => none }
def decodeJoinedRow : OpenClaim := { program := "ytbcfcbnlfbhgjaa", sum := "cda217af9607c9f234586949aa42bb8292728d1c74902dd97670fb37448cf683", func := "gangway/gangwaylaw05.DecodeJoined", spec := "decodeJoined", unfollowed := true, recurses := true, apart := false }
def DecodeJoinedSaid : Prop := decodeJoinedRow.holds Try.pinned (OpenSpec.ofChange decodeJoinedSpec)

/-- ITS FALSE NEIGHBOUR: 'it returns false'. Refute it at one input. -/
def decodeJoinedWrong : ChangeSpec := { name := "decodeJoined", fn := fun _ => fun
  | [d1, d2] => { results := [.lit (.bool false)], args := [d1, d2] }
  | _ => none }
def DecodeJoinedWrongFalsely : Prop := decodeJoinedRow.holds Try.pinned (OpenSpec.ofChange decodeJoinedWrong)

/- THE SECOND FORM. 'bulk': how many values and letters a reading holds, each counted each time it is reached (what is shared counts as often as it is met; a slice's spare places count too). A statement '..UptoSaid' is the law's where the arguments, and the package variables that the reading takes, are together of bulk at most 1048576: NARROWER than '..Said'. Prove '..Said' where nothing that the law and all that it calls make is longer than what came in: it says more and counts as full. Else prove '..UptoSaid'. A law counts once. -/
mutual
def uptoBulk {H : Type} : DataW H → Nat
  | .lit (.string bytes) => bytes.length + 1
  | .lit _ => 1
  | .nil => 1
  | .ptr d => uptoBulk d + 1
  | .slice elems spare => uptoBulkAll elems + uptoBulkAll spare + 1
  | .agg parts => uptoBulkAll parts + 1
  | .iface _ d => uptoBulk d + 1
  | .map entries => uptoBulkEntries entries + 1
  | .held _ => 1
def uptoBulkAll {H : Type} : List (DataW H) → Nat
  | [] => 0
  | d :: r => uptoBulk d + uptoBulkAll r
def uptoBulkEntries {H : Type} : List (Lit × DataW H) → Nat
  | [] => 0
  | x :: r => uptoBulkEntry x + uptoBulkEntries r
def uptoBulkEntry {H : Type} : Lit × DataW H → Nat
  | (.string bytes, d) => bytes.length + uptoBulk d + 1
  | (_, d) => uptoBulk d + 1
 end
def uptoSmall : (H : Type) → List (DataW H) → Bool := fun _ ds => decide (uptoBulkAll ds ≤ 1048576)
def OpenSpec.upto (s : _root_.Go.ChangeSpec) : _root_.Go.OpenSpec := { _root_.Go.OpenSpec.ofChange s with cond := some uptoSmall }

/-- 'gangwaylaw05.DecodeOnes', WHERE WHAT IT READS IS OF BULK AT MOST 1048576: true; the input reads as it did. -/
def decodeOnesUptoRow : OpenClaim := { program := "ytbcfcbnlfbhgjaa", sum := "cda217af9607c9f234586949aa42bb8292728d1c74902dd97670fb37448cf683", func := "gangway/gangwaylaw05.DecodeOnes", spec := "decodeOnes", unfollowed := true, recurses := true, apart := false, narrowed := true }
def DecodeOnesUptoSaid : Prop := decodeOnesUptoRow.holds Try.pinned (OpenSpec.upto decodeOnesSpec)

/-- 'gangwaylaw05.DecodeAll', WHERE WHAT IT READS IS OF BULK AT MOST 1048576: true; the input reads as it did. -/
def decodeAllUptoRow : OpenClaim := { program := "ytbcfcbnlfbhgjaa", sum := "cda217af9607c9f234586949aa42bb8292728d1c74902dd97670fb37448cf683", func := "gangway/gangwaylaw05.DecodeAll", spec := "decodeAll", unfollowed := true, recurses := true, apart := false, narrowed := true }
def DecodeAllUptoSaid : Prop := decodeAllUptoRow.holds Try.pinned (OpenSpec.upto decodeAllSpec)

/-- 'gangwaylaw05.DecodeJoined', WHERE WHAT IT READS IS OF BULK AT MOST 1048576: true; the input reads as it did. -/
def decodeJoinedUptoRow : OpenClaim := { program := "ytbcfcbnlfbhgjaa", sum := "cda217af9607c9f234586949aa42bb8292728d1c74902dd97670fb37448cf683", func := "gangway/gangwaylaw05.DecodeJoined", spec := "decodeJoined", unfollowed := true, recurses := true, apart := false, narrowed := true }
def DecodeJoinedUptoSaid : Prop := decodeJoinedUptoRow.holds Try.pinned (OpenSpec.upto decodeJoinedSpec)

end Rows
end Go.Proofs.Ytbcfcbnlfbhgjaa
