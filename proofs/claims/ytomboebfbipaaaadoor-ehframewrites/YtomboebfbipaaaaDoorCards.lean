/-
  DERIVED. GIVEN WITH THE SEED: THE CARDS: each row of YtomboebfbipaaaaDoorRows.lean that lists a variable, with what it lists TIED to the program's text (the seventh form; the later family's looks); each row that meets fmt, with fmt's text TOLD by the authors' own Lean function (tested against real Go, not proved from fmt's source: count such statements apart). THE CARD IS WHAT COUNTS. Prove the row's statement (the work); the ties are given (YtomboebfbipaaaaDoorTie.lean); close each card by the builder's one call (the guide's Derived/Test/ToyasCard.lean, 'card_holds'). Laid BY PROGRAM, IN A SANDBOX (cutbox-door.mjs). By AI agents, Wed Nov 11 2026. No macro, syntax, notation, axiom, sorry.
-/
import Derived.Test.YtomboebfbipaaaaDoorRows
import GoSem.ClaimSeven
namespace Go.Proofs.YtomboebfbipaaaaDoor
namespace Rows

/-- THE TIED CARD OF 'gangwaylaw14.EhframePointers'. -/
def ehframePointersCard : Claim7 := { stood := { row := ehframePointersRow, standIns := [], harness := (true, "90c3f859734be8e84035eac8d0424dedd8a8186c2fb8b1724dc318fd51a551b4"), looks := false }, kinds := [], alts := [], laidByText := true, laidKinds := [.data], laidTests := true, laidLooks := .later }
def EhframePointersCardSaid : Prop := Claim7.holds Tryd.pinned (.plain (OpenSpec.ofChange ehframePointersSpec)) ehframePointersCard

/-- THE TIED CARD OF 'gangwaylaw14.EhframeWrites'. -/
def ehframeWritesCard : Claim7 := { stood := { row := ehframeWritesRow, standIns := [], harness := (true, "90c3f859734be8e84035eac8d0424dedd8a8186c2fb8b1724dc318fd51a551b4"), looks := false }, kinds := [], alts := [], laidByText := true, laidKinds := [.data], laidTests := true, laidLooks := .later }
def EhframeWritesCardSaid : Prop := Claim7.holds Tryd.pinned (.plain (OpenSpec.ofChange ehframeWritesSpec)) ehframeWritesCard

/-- THE TIED CARD OF 'gangwaylaw14.EhframeMoved'. -/
def ehframeMovedCard : Claim7 := { stood := { row := ehframeMovedRow, standIns := [], harness := (true, "90c3f859734be8e84035eac8d0424dedd8a8186c2fb8b1724dc318fd51a551b4"), looks := false }, kinds := [], alts := [], laidByText := true, laidKinds := [.data], laidTests := true, laidLooks := .later }
def EhframeMovedCardSaid : Prop := Claim7.holds Tryd.pinned (.plain (OpenSpec.ofChange ehframeMovedSpec)) ehframeMovedCard

/-- THE SECOND FORM's CARD OF 'gangwaylaw14.EhframePointers'. -/
def ehframePointersUptoCard : Claim7 := { stood := { row := ehframePointersUptoRow, standIns := [], harness := (true, "90c3f859734be8e84035eac8d0424dedd8a8186c2fb8b1724dc318fd51a551b4"), looks := false }, kinds := [], alts := [], laidByText := true, laidKinds := [.data], laidTests := true, laidLooks := .later }
def EhframePointersUptoCardSaid : Prop := Claim7.holds Tryd.pinned (.plain (OpenSpec.upto ehframePointersSpec)) ehframePointersUptoCard

/-- THE SECOND FORM's CARD OF 'gangwaylaw14.EhframeWrites'. -/
def ehframeWritesUptoCard : Claim7 := { stood := { row := ehframeWritesUptoRow, standIns := [], harness := (true, "90c3f859734be8e84035eac8d0424dedd8a8186c2fb8b1724dc318fd51a551b4"), looks := false }, kinds := [], alts := [], laidByText := true, laidKinds := [.data], laidTests := true, laidLooks := .later }
def EhframeWritesUptoCardSaid : Prop := Claim7.holds Tryd.pinned (.plain (OpenSpec.upto ehframeWritesSpec)) ehframeWritesUptoCard

/-- THE SECOND FORM's CARD OF 'gangwaylaw14.EhframeMoved'. -/
def ehframeMovedUptoCard : Claim7 := { stood := { row := ehframeMovedUptoRow, standIns := [], harness := (true, "90c3f859734be8e84035eac8d0424dedd8a8186c2fb8b1724dc318fd51a551b4"), looks := false }, kinds := [], alts := [], laidByText := true, laidKinds := [.data], laidTests := true, laidLooks := .later }
def EhframeMovedUptoCardSaid : Prop := Claim7.holds Tryd.pinned (.plain (OpenSpec.upto ehframeMovedSpec)) ehframeMovedUptoCard
end Rows
end Go.Proofs.YtomboebfbipaaaaDoor
