/-
  DERIVED. GIVEN WITH THE SEED: THE CARDS: each row of YtpbnldfekadalaaDoorRows.lean that lists a variable, with what it lists TIED to the program's text (the seventh form; the later family's looks); each row that meets fmt, with fmt's text TOLD by the authors' own Lean function (tested against real Go, not proved from fmt's source: count such statements apart). THE CARD IS WHAT COUNTS. Prove the row's statement (the work); the ties are given (YtpbnldfekadalaaDoorTie.lean); close each card by the builder's one call (the guide's Derived/Test/ToyasCard.lean, 'card_holds'). Laid BY PROGRAM, IN A SANDBOX (cutbox-door.mjs). By AI agents, Wed Nov 11 2026. No macro, syntax, notation, axiom, sorry.
-/
import Derived.Test.YtpbnldfekadalaaDoorRows
import GoSem.ClaimSeven
namespace Go.Proofs.YtpbnldfekadalaaDoor
namespace Rows

/-- THE TIED CARD OF 'gangwaylaw13.CfaCompiles'. -/
def cfaCompilesCard : Claim7 := { stood := { row := cfaCompilesRow, standIns := [], harness := (true, "c6c3baed14a0bdac4f0f7aa8e681ac818e6393e3dafd24f604d8554172bd4226"), looks := false }, kinds := [], alts := [], laidByText := true, laidKinds := [.data], laidTests := true, laidLooks := .later }
def CfaCompilesCardSaid : Prop := Claim7.holds Tryd.pinned (.plain (OpenSpec.ofChange cfaCompilesSpec)) cfaCompilesCard

/-- THE SECOND FORM's CARD OF 'gangwaylaw13.CfaCompiles'. -/
def cfaCompilesUptoCard : Claim7 := { stood := { row := cfaCompilesUptoRow, standIns := [], harness := (true, "c6c3baed14a0bdac4f0f7aa8e681ac818e6393e3dafd24f604d8554172bd4226"), looks := false }, kinds := [], alts := [], laidByText := true, laidKinds := [.data], laidTests := true, laidLooks := .later }
def CfaCompilesUptoCardSaid : Prop := Claim7.holds Tryd.pinned (.plain (OpenSpec.upto cfaCompilesSpec)) cfaCompilesUptoCard
end Rows
end Go.Proofs.YtpbnldfekadalaaDoor
