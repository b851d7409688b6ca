/-
  DERIVED. GIVEN WITH THE SEED: THE CARDS: each row of YtbfkmnlbmlpogabDoorRows.lean that lists a variable, with what it lists TIED to the program's text (the seventh form; the later family's looks); each row that meets fmt, with fmt's text TOLD by the authors' own Lean function (tested against real Go, not proved from fmt's source: count such statements apart). THE CARD IS WHAT COUNTS. Prove the row's statement (the work); the ties are given (YtbfkmnlbmlpogabDoorTie.lean); close each card by the builder's one call (the guide's Derived/Test/ToyasCard.lean, 'card_holds'). Laid BY PROGRAM, IN A SANDBOX (cutbox-door.mjs). By AI agents, Wed Nov 11 2026. No macro, syntax, notation, axiom, sorry.
-/
import Derived.Test.YtbfkmnlbmlpogabDoorRows
import GoSem.ClaimSeven
namespace Go.Proofs.YtbfkmnlbmlpogabDoor
namespace Rows

/-- THE TIED CARD OF 'gangwaylaw02.AluHalves'. -/
def aluHalvesCard : Claim7 := { stood := { row := aluHalvesRow, standIns := [], harness := (true, "e31b573405027cbe6e439c3b257da38aeb3594e8c7fd5663b0fbf14ac8d7d42e"), looks := false }, kinds := [], alts := [], laidByText := true, laidKinds := [.data], laidTests := true, laidLooks := .later }
def AluHalvesCardSaid : Prop := Claim7.holds Tryd.pinned (.plain (OpenSpec.ofChange aluHalvesSpec)) aluHalvesCard

/-- THE TIED CARD OF 'gangwaylaw02.AluBack'. -/
def aluBackCard : Claim7 := { stood := { row := aluBackRow, standIns := [], harness := (true, "e31b573405027cbe6e439c3b257da38aeb3594e8c7fd5663b0fbf14ac8d7d42e"), looks := false }, kinds := [], alts := [], laidByText := true, laidKinds := [.data], laidTests := true, laidLooks := .later }
def AluBackCardSaid : Prop := Claim7.holds Tryd.pinned (.plain (OpenSpec.ofChange aluBackSpec)) aluBackCard

/-- THE TIED CARD OF 'gangwaylaw02.AluPowers'. -/
def aluPowersCard : Claim7 := { stood := { row := aluPowersRow, standIns := [], harness := (true, "e31b573405027cbe6e439c3b257da38aeb3594e8c7fd5663b0fbf14ac8d7d42e"), looks := false }, kinds := [], alts := [], laidByText := true, laidKinds := [.data], laidTests := true, laidLooks := .later }
def AluPowersCardSaid : Prop := Claim7.holds Tryd.pinned (.plain (OpenSpec.ofChange aluPowersSpec)) aluPowersCard

/-- THE SECOND FORM's CARD OF 'gangwaylaw02.AluHalves'. -/
def aluHalvesUptoCard : Claim7 := { stood := { row := aluHalvesUptoRow, standIns := [], harness := (true, "e31b573405027cbe6e439c3b257da38aeb3594e8c7fd5663b0fbf14ac8d7d42e"), looks := false }, kinds := [], alts := [], laidByText := true, laidKinds := [.data], laidTests := true, laidLooks := .later }
def AluHalvesUptoCardSaid : Prop := Claim7.holds Tryd.pinned (.plain (OpenSpec.upto aluHalvesSpec)) aluHalvesUptoCard

/-- THE SECOND FORM's CARD OF 'gangwaylaw02.AluBack'. -/
def aluBackUptoCard : Claim7 := { stood := { row := aluBackUptoRow, standIns := [], harness := (true, "e31b573405027cbe6e439c3b257da38aeb3594e8c7fd5663b0fbf14ac8d7d42e"), looks := false }, kinds := [], alts := [], laidByText := true, laidKinds := [.data], laidTests := true, laidLooks := .later }
def AluBackUptoCardSaid : Prop := Claim7.holds Tryd.pinned (.plain (OpenSpec.upto aluBackSpec)) aluBackUptoCard

/-- THE SECOND FORM's CARD OF 'gangwaylaw02.AluPowers'. -/
def aluPowersUptoCard : Claim7 := { stood := { row := aluPowersUptoRow, standIns := [], harness := (true, "e31b573405027cbe6e439c3b257da38aeb3594e8c7fd5663b0fbf14ac8d7d42e"), looks := false }, kinds := [], alts := [], laidByText := true, laidKinds := [.data], laidTests := true, laidLooks := .later }
def AluPowersUptoCardSaid : Prop := Claim7.holds Tryd.pinned (.plain (OpenSpec.upto aluPowersSpec)) aluPowersUptoCard
end Rows
end Go.Proofs.YtbfkmnlbmlpogabDoor
