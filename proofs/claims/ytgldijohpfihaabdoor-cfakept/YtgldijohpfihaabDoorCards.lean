/-
  DERIVED. GIVEN WITH THE SEED: THE CARDS: each row of YtgldijohpfihaabDoorRows.lean that lists a variable, with what it lists TIED to the program's text (the seventh form; the later family's looks); each row that meets fmt, with fmt's text TOLD by the authors' own Lean function (tested against real Go, not proved from fmt's source: count such statements apart). THE CARD IS WHAT COUNTS. Prove the row's statement (the work); the ties are given (YtgldijohpfihaabDoorTie.lean); close each card by the builder's one call (the guide's Derived/Test/ToyasCard.lean, 'card_holds'). Laid BY PROGRAM, IN A SANDBOX (cutbox-door.mjs). By AI agents, Wed Nov 11 2026. No macro, syntax, notation, axiom, sorry.
-/
import Derived.Test.YtgldijohpfihaabDoorRows
import GoSem.ClaimSeven
namespace Go.Proofs.YtgldijohpfihaabDoor
namespace Rows

/-- THE TIED CARD OF 'gangwaylaw13.CfaKept'. -/
def cfaKeptCard : Claim7 := { stood := { row := cfaKeptRow, standIns := [], harness := (true, "47c8547245a56116c1f12b7f559931635cc0c13a3209e64496fa7b85c68e0070"), looks := false }, kinds := [], alts := [], laidByText := true, laidKinds := [.data], laidTests := true, laidLooks := .later }
def CfaKeptCardSaid : Prop := Claim7.holds Tryd.pinned (.plain (OpenSpec.ofChange cfaKeptSpec)) cfaKeptCard

/-- THE TIED CARD OF 'gangwaylaw13.CfaTogether'. -/
def cfaTogetherCard : Claim7 := { stood := { row := cfaTogetherRow, standIns := [], harness := (true, "47c8547245a56116c1f12b7f559931635cc0c13a3209e64496fa7b85c68e0070"), looks := false }, kinds := [], alts := [], laidByText := true, laidKinds := [.data], laidTests := true, laidLooks := .later }
def CfaTogetherCardSaid : Prop := Claim7.holds Tryd.pinned (.plain (OpenSpec.ofChange cfaTogetherSpec)) cfaTogetherCard

/-- THE SECOND FORM's CARD OF 'gangwaylaw13.CfaKept'. -/
def cfaKeptUptoCard : Claim7 := { stood := { row := cfaKeptUptoRow, standIns := [], harness := (true, "47c8547245a56116c1f12b7f559931635cc0c13a3209e64496fa7b85c68e0070"), looks := false }, kinds := [], alts := [], laidByText := true, laidKinds := [.data], laidTests := true, laidLooks := .later }
def CfaKeptUptoCardSaid : Prop := Claim7.holds Tryd.pinned (.plain (OpenSpec.upto cfaKeptSpec)) cfaKeptUptoCard

/-- THE SECOND FORM's CARD OF 'gangwaylaw13.CfaTogether'. -/
def cfaTogetherUptoCard : Claim7 := { stood := { row := cfaTogetherUptoRow, standIns := [], harness := (true, "47c8547245a56116c1f12b7f559931635cc0c13a3209e64496fa7b85c68e0070"), looks := false }, kinds := [], alts := [], laidByText := true, laidKinds := [.data], laidTests := true, laidLooks := .later }
def CfaTogetherUptoCardSaid : Prop := Claim7.holds Tryd.pinned (.plain (OpenSpec.upto cfaTogetherSpec)) cfaTogetherUptoCard
end Rows
end Go.Proofs.YtgldijohpfihaabDoor
