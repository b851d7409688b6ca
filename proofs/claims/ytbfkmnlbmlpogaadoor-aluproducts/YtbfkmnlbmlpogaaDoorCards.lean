/-
  DERIVED. GIVEN WITH THE SEED: THE CARDS: each row of YtbfkmnlbmlpogaaDoorRows.lean that lists a variable, with what it lists TIED to the program's text (the seventh form; the later family's looks); each row that meets fmt, with fmt's text TOLD by the authors' own Lean function (tested against real Go, not proved from fmt's source: count such statements apart). THE CARD IS WHAT COUNTS. Prove the row's statement (the work); the ties are given (YtbfkmnlbmlpogaaDoorTie.lean); close each card by the builder's one call (the guide's Derived/Test/ToyasCard.lean, 'card_holds'). Laid BY PROGRAM, IN A SANDBOX (cutbox-door.mjs). By AI agents, Wed Nov 11 2026. No macro, syntax, notation, axiom, sorry.
-/
import Derived.Test.YtbfkmnlbmlpogaaDoorRows
import GoSem.ClaimSeven
namespace Go.Proofs.YtbfkmnlbmlpogaaDoor
namespace Rows

/-- THE TIED CARD OF 'gangwaylaw02.AluSums'. -/
def aluSumsCard : Claim7 := { stood := { row := aluSumsRow, standIns := [], harness := (true, "b62b70322d8ebb973877f971a2c0e975bbfc55c57afaf7868b562d4c5a936c37"), looks := false }, kinds := [], alts := [], laidByText := true, laidKinds := [.data], laidTests := true, laidLooks := .later }
def AluSumsCardSaid : Prop := Claim7.holds Tryd.pinned (.plain (OpenSpec.ofChange aluSumsSpec)) aluSumsCard

/-- THE TIED CARD OF 'gangwaylaw02.AluBits'. -/
def aluBitsCard : Claim7 := { stood := { row := aluBitsRow, standIns := [], harness := (true, "b62b70322d8ebb973877f971a2c0e975bbfc55c57afaf7868b562d4c5a936c37"), looks := false }, kinds := [], alts := [], laidByText := true, laidKinds := [.data], laidTests := true, laidLooks := .later }
def AluBitsCardSaid : Prop := Claim7.holds Tryd.pinned (.plain (OpenSpec.ofChange aluBitsSpec)) aluBitsCard

/-- THE TIED CARD OF 'gangwaylaw02.AluShifts'. -/
def aluShiftsCard : Claim7 := { stood := { row := aluShiftsRow, standIns := [], harness := (true, "b62b70322d8ebb973877f971a2c0e975bbfc55c57afaf7868b562d4c5a936c37"), looks := false }, kinds := [], alts := [], laidByText := true, laidKinds := [.data], laidTests := true, laidLooks := .later }
def AluShiftsCardSaid : Prop := Claim7.holds Tryd.pinned (.plain (OpenSpec.ofChange aluShiftsSpec)) aluShiftsCard

/-- THE TIED CARD OF 'gangwaylaw02.AluProducts'. -/
def aluProductsCard : Claim7 := { stood := { row := aluProductsRow, standIns := [], harness := (true, "b62b70322d8ebb973877f971a2c0e975bbfc55c57afaf7868b562d4c5a936c37"), looks := false }, kinds := [], alts := [], laidByText := true, laidKinds := [.data], laidTests := true, laidLooks := .later }
def AluProductsCardSaid : Prop := Claim7.holds Tryd.pinned (.plain (OpenSpec.ofChange aluProductsSpec)) aluProductsCard

/-- THE TIED CARD OF 'gangwaylaw02.AluFlags'. -/
def aluFlagsCard : Claim7 := { stood := { row := aluFlagsRow, standIns := [], harness := (true, "b62b70322d8ebb973877f971a2c0e975bbfc55c57afaf7868b562d4c5a936c37"), looks := false }, kinds := [], alts := [], laidByText := true, laidKinds := [.data], laidTests := true, laidLooks := .later }
def AluFlagsCardSaid : Prop := Claim7.holds Tryd.pinned (.plain (OpenSpec.ofChange aluFlagsSpec)) aluFlagsCard

/-- THE TIED CARD OF 'gangwaylaw02.AluOrder'. -/
def aluOrderCard : Claim7 := { stood := { row := aluOrderRow, standIns := [], harness := (true, "b62b70322d8ebb973877f971a2c0e975bbfc55c57afaf7868b562d4c5a936c37"), looks := false }, kinds := [], alts := [], laidByText := true, laidKinds := [.data], laidTests := true, laidLooks := .later }
def AluOrderCardSaid : Prop := Claim7.holds Tryd.pinned (.plain (OpenSpec.ofChange aluOrderSpec)) aluOrderCard

/-- THE SECOND FORM's CARD OF 'gangwaylaw02.AluSums'. -/
def aluSumsUptoCard : Claim7 := { stood := { row := aluSumsUptoRow, standIns := [], harness := (true, "b62b70322d8ebb973877f971a2c0e975bbfc55c57afaf7868b562d4c5a936c37"), looks := false }, kinds := [], alts := [], laidByText := true, laidKinds := [.data], laidTests := true, laidLooks := .later }
def AluSumsUptoCardSaid : Prop := Claim7.holds Tryd.pinned (.plain (OpenSpec.upto aluSumsSpec)) aluSumsUptoCard

/-- THE SECOND FORM's CARD OF 'gangwaylaw02.AluBits'. -/
def aluBitsUptoCard : Claim7 := { stood := { row := aluBitsUptoRow, standIns := [], harness := (true, "b62b70322d8ebb973877f971a2c0e975bbfc55c57afaf7868b562d4c5a936c37"), looks := false }, kinds := [], alts := [], laidByText := true, laidKinds := [.data], laidTests := true, laidLooks := .later }
def AluBitsUptoCardSaid : Prop := Claim7.holds Tryd.pinned (.plain (OpenSpec.upto aluBitsSpec)) aluBitsUptoCard

/-- THE SECOND FORM's CARD OF 'gangwaylaw02.AluShifts'. -/
def aluShiftsUptoCard : Claim7 := { stood := { row := aluShiftsUptoRow, standIns := [], harness := (true, "b62b70322d8ebb973877f971a2c0e975bbfc55c57afaf7868b562d4c5a936c37"), looks := false }, kinds := [], alts := [], laidByText := true, laidKinds := [.data], laidTests := true, laidLooks := .later }
def AluShiftsUptoCardSaid : Prop := Claim7.holds Tryd.pinned (.plain (OpenSpec.upto aluShiftsSpec)) aluShiftsUptoCard

/-- THE SECOND FORM's CARD OF 'gangwaylaw02.AluProducts'. -/
def aluProductsUptoCard : Claim7 := { stood := { row := aluProductsUptoRow, standIns := [], harness := (true, "b62b70322d8ebb973877f971a2c0e975bbfc55c57afaf7868b562d4c5a936c37"), looks := false }, kinds := [], alts := [], laidByText := true, laidKinds := [.data], laidTests := true, laidLooks := .later }
def AluProductsUptoCardSaid : Prop := Claim7.holds Tryd.pinned (.plain (OpenSpec.upto aluProductsSpec)) aluProductsUptoCard

/-- THE SECOND FORM's CARD OF 'gangwaylaw02.AluFlags'. -/
def aluFlagsUptoCard : Claim7 := { stood := { row := aluFlagsUptoRow, standIns := [], harness := (true, "b62b70322d8ebb973877f971a2c0e975bbfc55c57afaf7868b562d4c5a936c37"), looks := false }, kinds := [], alts := [], laidByText := true, laidKinds := [.data], laidTests := true, laidLooks := .later }
def AluFlagsUptoCardSaid : Prop := Claim7.holds Tryd.pinned (.plain (OpenSpec.upto aluFlagsSpec)) aluFlagsUptoCard

/-- THE SECOND FORM's CARD OF 'gangwaylaw02.AluOrder'. -/
def aluOrderUptoCard : Claim7 := { stood := { row := aluOrderUptoRow, standIns := [], harness := (true, "b62b70322d8ebb973877f971a2c0e975bbfc55c57afaf7868b562d4c5a936c37"), looks := false }, kinds := [], alts := [], laidByText := true, laidKinds := [.data], laidTests := true, laidLooks := .later }
def AluOrderUptoCardSaid : Prop := Claim7.holds Tryd.pinned (.plain (OpenSpec.upto aluOrderSpec)) aluOrderUptoCard
end Rows
end Go.Proofs.YtbfkmnlbmlpogaaDoor
