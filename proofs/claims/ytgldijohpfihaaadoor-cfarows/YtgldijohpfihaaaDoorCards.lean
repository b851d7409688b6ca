/-
  DERIVED. GIVEN WITH THE SEED: THE CARDS: each row of YtgldijohpfihaaaDoorRows.lean that lists a variable, with what it lists TIED to the program's text (the seventh form; the later family's looks); each row that meets fmt, with fmt's text TOLD by the authors' own Lean function (tested against real Go, not proved from fmt's source: count such statements apart). THE CARD IS WHAT COUNTS. Prove the row's statement (the work); the ties are given (YtgldijohpfihaaaDoorTie.lean); close each card by the builder's one call (the guide's Derived/Test/ToyasCard.lean, 'card_holds'). Laid BY PROGRAM, IN A SANDBOX (cutbox-door.mjs). By AI agents, Wed Nov 11 2026. No macro, syntax, notation, axiom, sorry.
-/
import Derived.Test.YtgldijohpfihaaaDoorRows
import GoSem.ClaimSeven
namespace Go.Proofs.YtgldijohpfihaaaDoor
namespace Rows

/-- THE TIED CARD OF 'gangwaylaw13.CfaRows'. -/
def cfaRowsCard : Claim7 := { stood := { row := cfaRowsRow, standIns := [], harness := (true, "aa5a5ccb58092eecc2f4df2b0a8645732915792982c0c7480f8175ae3559d51c"), looks := false }, kinds := [], alts := [], laidByText := true, laidKinds := [.data], laidTests := true, laidLooks := .later }
def CfaRowsCardSaid : Prop := Claim7.holds Tryd.pinned (.plain (OpenSpec.ofChange cfaRowsSpec)) cfaRowsCard

/-- THE TIED CARD OF 'gangwaylaw13.CfaCompiles'. -/
def cfaCompilesCard : Claim7 := { stood := { row := cfaCompilesRow, standIns := [], harness := (true, "aa5a5ccb58092eecc2f4df2b0a8645732915792982c0c7480f8175ae3559d51c"), looks := false }, kinds := [], alts := [], laidByText := true, laidKinds := [.data], laidTests := true, laidLooks := .later }
def CfaCompilesCardSaid : Prop := Claim7.holds Tryd.pinned (.plain (OpenSpec.ofChange cfaCompilesSpec)) cfaCompilesCard

/-- THE TIED CARD OF 'gangwaylaw13.CfaWrites'. -/
def cfaWritesCard : Claim7 := { stood := { row := cfaWritesRow, standIns := [], harness := (true, "aa5a5ccb58092eecc2f4df2b0a8645732915792982c0c7480f8175ae3559d51c"), looks := false }, kinds := [], alts := [], laidByText := true, laidKinds := [.data], laidTests := true, laidLooks := .later }
def CfaWritesCardSaid : Prop := Claim7.holds Tryd.pinned (.plain (OpenSpec.ofChange cfaWritesSpec)) cfaWritesCard

/-- THE TIED CARD OF 'gangwaylaw13.CfaReads'. -/
def cfaReadsCard : Claim7 := { stood := { row := cfaReadsRow, standIns := [], harness := (true, "aa5a5ccb58092eecc2f4df2b0a8645732915792982c0c7480f8175ae3559d51c"), looks := false }, kinds := [], alts := [], laidByText := true, laidKinds := [.data], laidTests := true, laidLooks := .later }
def CfaReadsCardSaid : Prop := Claim7.holds Tryd.pinned (.plain (OpenSpec.ofChange cfaReadsSpec)) cfaReadsCard

/-- THE TIED CARD OF 'gangwaylaw13.CfaBack'. -/
def cfaBackCard : Claim7 := { stood := { row := cfaBackRow, standIns := [], harness := (true, "aa5a5ccb58092eecc2f4df2b0a8645732915792982c0c7480f8175ae3559d51c"), looks := false }, kinds := [], alts := [], laidByText := true, laidKinds := [.data], laidTests := true, laidLooks := .later }
def CfaBackCardSaid : Prop := Claim7.holds Tryd.pinned (.plain (OpenSpec.ofChange cfaBackSpec)) cfaBackCard

/-- THE TIED CARD OF 'gangwaylaw13.CfaRise'. -/
def cfaRiseCard : Claim7 := { stood := { row := cfaRiseRow, standIns := [], harness := (true, "aa5a5ccb58092eecc2f4df2b0a8645732915792982c0c7480f8175ae3559d51c"), looks := false }, kinds := [], alts := [], laidByText := true, laidKinds := [.data], laidTests := true, laidLooks := .later }
def CfaRiseCardSaid : Prop := Claim7.holds Tryd.pinned (.plain (OpenSpec.ofChange cfaRiseSpec)) cfaRiseCard

/-- THE SECOND FORM's CARD OF 'gangwaylaw13.CfaRows'. -/
def cfaRowsUptoCard : Claim7 := { stood := { row := cfaRowsUptoRow, standIns := [], harness := (true, "aa5a5ccb58092eecc2f4df2b0a8645732915792982c0c7480f8175ae3559d51c"), looks := false }, kinds := [], alts := [], laidByText := true, laidKinds := [.data], laidTests := true, laidLooks := .later }
def CfaRowsUptoCardSaid : Prop := Claim7.holds Tryd.pinned (.plain (OpenSpec.upto cfaRowsSpec)) cfaRowsUptoCard

/-- THE SECOND FORM's CARD OF 'gangwaylaw13.CfaCompiles'. -/
def cfaCompilesUptoCard : Claim7 := { stood := { row := cfaCompilesUptoRow, standIns := [], harness := (true, "aa5a5ccb58092eecc2f4df2b0a8645732915792982c0c7480f8175ae3559d51c"), looks := false }, kinds := [], alts := [], laidByText := true, laidKinds := [.data], laidTests := true, laidLooks := .later }
def CfaCompilesUptoCardSaid : Prop := Claim7.holds Tryd.pinned (.plain (OpenSpec.upto cfaCompilesSpec)) cfaCompilesUptoCard

/-- THE SECOND FORM's CARD OF 'gangwaylaw13.CfaWrites'. -/
def cfaWritesUptoCard : Claim7 := { stood := { row := cfaWritesUptoRow, standIns := [], harness := (true, "aa5a5ccb58092eecc2f4df2b0a8645732915792982c0c7480f8175ae3559d51c"), looks := false }, kinds := [], alts := [], laidByText := true, laidKinds := [.data], laidTests := true, laidLooks := .later }
def CfaWritesUptoCardSaid : Prop := Claim7.holds Tryd.pinned (.plain (OpenSpec.upto cfaWritesSpec)) cfaWritesUptoCard

/-- THE SECOND FORM's CARD OF 'gangwaylaw13.CfaReads'. -/
def cfaReadsUptoCard : Claim7 := { stood := { row := cfaReadsUptoRow, standIns := [], harness := (true, "aa5a5ccb58092eecc2f4df2b0a8645732915792982c0c7480f8175ae3559d51c"), looks := false }, kinds := [], alts := [], laidByText := true, laidKinds := [.data], laidTests := true, laidLooks := .later }
def CfaReadsUptoCardSaid : Prop := Claim7.holds Tryd.pinned (.plain (OpenSpec.upto cfaReadsSpec)) cfaReadsUptoCard

/-- THE SECOND FORM's CARD OF 'gangwaylaw13.CfaBack'. -/
def cfaBackUptoCard : Claim7 := { stood := { row := cfaBackUptoRow, standIns := [], harness := (true, "aa5a5ccb58092eecc2f4df2b0a8645732915792982c0c7480f8175ae3559d51c"), looks := false }, kinds := [], alts := [], laidByText := true, laidKinds := [.data], laidTests := true, laidLooks := .later }
def CfaBackUptoCardSaid : Prop := Claim7.holds Tryd.pinned (.plain (OpenSpec.upto cfaBackSpec)) cfaBackUptoCard

/-- THE SECOND FORM's CARD OF 'gangwaylaw13.CfaRise'. -/
def cfaRiseUptoCard : Claim7 := { stood := { row := cfaRiseUptoRow, standIns := [], harness := (true, "aa5a5ccb58092eecc2f4df2b0a8645732915792982c0c7480f8175ae3559d51c"), looks := false }, kinds := [], alts := [], laidByText := true, laidKinds := [.data], laidTests := true, laidLooks := .later }
def CfaRiseUptoCardSaid : Prop := Claim7.holds Tryd.pinned (.plain (OpenSpec.upto cfaRiseSpec)) cfaRiseUptoCard
end Rows
end Go.Proofs.YtgldijohpfihaaaDoor
