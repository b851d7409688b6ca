/-
  DERIVED. GIVEN WITH THE SEED: THE CARDS: each row of YtpdcbokcoaienaaDoorRows.lean that lists a variable, with what it lists TIED to the program's text (the seventh form; the later family's looks); each row that meets fmt, with fmt's text TOLD by the authors' own Lean function (tested against real Go, not proved from fmt's source: count such statements apart). THE CARD IS WHAT COUNTS. Prove the row's statement (the work); the ties are given (YtpdcbokcoaienaaDoorTie.lean); close each card by the builder's one call (the guide's Derived/Test/ToyasCard.lean, 'card_holds'). Laid BY PROGRAM, IN A SANDBOX (cutbox-door.mjs). By AI agents, Wed Nov 11 2026. No macro, syntax, notation, axiom, sorry.
-/
import Derived.Test.YtpdcbokcoaienaaDoorRows
import GoSem.ClaimSeven
namespace Go.Proofs.YtpdcbokcoaienaaDoor
namespace Rows

/-- THE TIED CARD OF 'gangwaylaw08.SymtabWrites'. -/
def symtabWritesCard : Claim7 := { stood := { row := symtabWritesRow, standIns := [], harness := (true, "2567821ad6dea57ffadd3bbbafb4022e5991449b882b24e65e05d1b48522bbdb"), looks := true }, kinds := [], alts := [], laidByText := true, laidKinds := [.data], laidTests := true, laidLooks := .later }
def SymtabWritesCardSaid : Prop := Claim7.holds Tryd.pinned (.plain (OpenSpec.ofChange symtabWritesSpec)) symtabWritesCard

/-- THE TIED CARD OF 'gangwaylaw08.SymtabReads'. -/
def symtabReadsCard : Claim7 := { stood := { row := symtabReadsRow, standIns := [], harness := (true, "2567821ad6dea57ffadd3bbbafb4022e5991449b882b24e65e05d1b48522bbdb"), looks := true }, kinds := [], alts := [], laidByText := true, laidKinds := [.data], laidTests := true, laidLooks := .later }
def SymtabReadsCardSaid : Prop := Claim7.holds Tryd.pinned (.plain (OpenSpec.ofChange symtabReadsSpec)) symtabReadsCard

/-- THE TIED CARD OF 'gangwaylaw08.SymtabBack'. -/
def symtabBackCard : Claim7 := { stood := { row := symtabBackRow, standIns := [], harness := (true, "2567821ad6dea57ffadd3bbbafb4022e5991449b882b24e65e05d1b48522bbdb"), looks := true }, kinds := [], alts := [], laidByText := true, laidKinds := [.data], laidTests := true, laidLooks := .later }
def SymtabBackCardSaid : Prop := Claim7.holds Tryd.pinned (.plain (OpenSpec.ofChange symtabBackSpec)) symtabBackCard

/-- THE SECOND FORM's CARD OF 'gangwaylaw08.SymtabWrites'. -/
def symtabWritesUptoCard : Claim7 := { stood := { row := symtabWritesUptoRow, standIns := [], harness := (true, "2567821ad6dea57ffadd3bbbafb4022e5991449b882b24e65e05d1b48522bbdb"), looks := true }, kinds := [], alts := [], laidByText := true, laidKinds := [.data], laidTests := true, laidLooks := .later }
def SymtabWritesUptoCardSaid : Prop := Claim7.holds Tryd.pinned (.plain (OpenSpec.upto symtabWritesSpec)) symtabWritesUptoCard

/-- THE SECOND FORM's CARD OF 'gangwaylaw08.SymtabReads'. -/
def symtabReadsUptoCard : Claim7 := { stood := { row := symtabReadsUptoRow, standIns := [], harness := (true, "2567821ad6dea57ffadd3bbbafb4022e5991449b882b24e65e05d1b48522bbdb"), looks := true }, kinds := [], alts := [], laidByText := true, laidKinds := [.data], laidTests := true, laidLooks := .later }
def SymtabReadsUptoCardSaid : Prop := Claim7.holds Tryd.pinned (.plain (OpenSpec.upto symtabReadsSpec)) symtabReadsUptoCard

/-- THE SECOND FORM's CARD OF 'gangwaylaw08.SymtabBack'. -/
def symtabBackUptoCard : Claim7 := { stood := { row := symtabBackUptoRow, standIns := [], harness := (true, "2567821ad6dea57ffadd3bbbafb4022e5991449b882b24e65e05d1b48522bbdb"), looks := true }, kinds := [], alts := [], laidByText := true, laidKinds := [.data], laidTests := true, laidLooks := .later }
def SymtabBackUptoCardSaid : Prop := Claim7.holds Tryd.pinned (.plain (OpenSpec.upto symtabBackSpec)) symtabBackUptoCard
end Rows
end Go.Proofs.YtpdcbokcoaienaaDoor
