/-
  DERIVED. GIVEN WITH THE SEED: THE CARDS: each row of YtijjkiogmlannaaDoorRows.lean that lists a variable, with what it lists TIED to the program's text (the seventh form; the later family's looks); each row that meets fmt, with fmt's text TOLD by the authors' own Lean function (tested against real Go, not proved from fmt's source: count such statements apart). THE CARD IS WHAT COUNTS. Prove the row's statement (the work); the ties are given (YtijjkiogmlannaaDoorTie.lean); close each card by the builder's one call (the guide's Derived/Test/ToyasCard.lean, 'card_holds'). Laid BY PROGRAM, IN A SANDBOX (cutbox-door.mjs). By AI agents, Wed Nov 11 2026. No macro, syntax, notation, axiom, sorry.
-/
import Derived.Test.YtijjkiogmlannaaDoorRows
import GoSem.ClaimSeven
namespace Go.Proofs.YtijjkiogmlannaaDoor
namespace Rows

/-- THE TIED CARD OF 'taliklaw06.StoreRuns'. -/
def storeRunsCard : Claim7 := { stood := { row := storeRunsRow, standIns := [], harness := (true, "86a3c41471132a7868ef16d12c3bac5dfb3c7f88965c999f93f34427acdaf01b"), looks := false }, kinds := [], alts := [], laidByText := true, laidKinds := [.data, .data, .data], laidTests := true, laidLooks := .later }
def StoreRunsCardSaid : Prop := Claim7.holds Tryd.pinned (.plain (OpenSpec.ofChange storeRunsSpec)) storeRunsCard

/-- THE TIED CARD OF 'taliklaw06.StoreKeeps'. -/
def storeKeepsCard : Claim7 := { stood := { row := storeKeepsRow, standIns := [], harness := (true, "86a3c41471132a7868ef16d12c3bac5dfb3c7f88965c999f93f34427acdaf01b"), looks := false }, kinds := [], alts := [], laidByText := true, laidKinds := [.data, .data, .data], laidTests := true, laidLooks := .later }
def StoreKeepsCardSaid : Prop := Claim7.holds Tryd.pinned (.plain (OpenSpec.ofChange storeKeepsSpec)) storeKeepsCard

/-- THE TIED CARD OF 'taliklaw06.StoreFaults'. -/
def storeFaultsCard : Claim7 := { stood := { row := storeFaultsRow, standIns := [], harness := (true, "86a3c41471132a7868ef16d12c3bac5dfb3c7f88965c999f93f34427acdaf01b"), looks := false }, kinds := [], alts := [], laidByText := true, laidKinds := [.data, .data, .data], laidTests := true, laidLooks := .later }
def StoreFaultsCardSaid : Prop := Claim7.holds Tryd.pinned (.plain (OpenSpec.ofChange storeFaultsSpec)) storeFaultsCard

/-- THE TIED CARD OF 'taliklaw06.StoreEnough'. -/
def storeEnoughCard : Claim7 := { stood := { row := storeEnoughRow, standIns := [], harness := (true, "86a3c41471132a7868ef16d12c3bac5dfb3c7f88965c999f93f34427acdaf01b"), looks := false }, kinds := [], alts := [], laidByText := true, laidKinds := [.data, .data, .data], laidTests := true, laidLooks := .later }
def StoreEnoughCardSaid : Prop := Claim7.holds Tryd.pinned (.plain (OpenSpec.ofChange storeEnoughSpec)) storeEnoughCard

/-- THE TIED CARD OF 'taliklaw06.StoreBests'. -/
def storeBestsCard : Claim7 := { stood := { row := storeBestsRow, standIns := [], harness := (true, "86a3c41471132a7868ef16d12c3bac5dfb3c7f88965c999f93f34427acdaf01b"), looks := false }, kinds := [], alts := [], laidByText := true, laidKinds := [.data, .data, .data], laidTests := true, laidLooks := .later }
def StoreBestsCardSaid : Prop := Claim7.holds Tryd.pinned (.plain (OpenSpec.ofChange storeBestsSpec)) storeBestsCard

/-- THE TIED CARD OF 'taliklaw06.StoreRivals'. -/
def storeRivalsCard : Claim7 := { stood := { row := storeRivalsRow, standIns := [], harness := (true, "86a3c41471132a7868ef16d12c3bac5dfb3c7f88965c999f93f34427acdaf01b"), looks := false }, kinds := [], alts := [], laidByText := true, laidKinds := [.data, .data, .data], laidTests := true, laidLooks := .later }
def StoreRivalsCardSaid : Prop := Claim7.holds Tryd.pinned (.plain (OpenSpec.ofChange storeRivalsSpec)) storeRivalsCard

/-- THE TIED CARD OF 'taliklaw06.StoreFloors'. -/
def storeFloorsCard : Claim7 := { stood := { row := storeFloorsRow, standIns := [], harness := (true, "86a3c41471132a7868ef16d12c3bac5dfb3c7f88965c999f93f34427acdaf01b"), looks := false }, kinds := [], alts := [], laidByText := true, laidKinds := [.data, .data, .data], laidTests := true, laidLooks := .later }
def StoreFloorsCardSaid : Prop := Claim7.holds Tryd.pinned (.plain (OpenSpec.ofChange storeFloorsSpec)) storeFloorsCard

/-- THE TIED CARD OF 'taliklaw06.StoreFloored'. -/
def storeFlooredCard : Claim7 := { stood := { row := storeFlooredRow, standIns := [], harness := (true, "86a3c41471132a7868ef16d12c3bac5dfb3c7f88965c999f93f34427acdaf01b"), looks := false }, kinds := [], alts := [], laidByText := true, laidKinds := [.data, .data, .data], laidTests := true, laidLooks := .later }
def StoreFlooredCardSaid : Prop := Claim7.holds Tryd.pinned (.plain (OpenSpec.ofChange storeFlooredSpec)) storeFlooredCard

/-- THE TIED CARD OF 'taliklaw06.StoreMore'. -/
def storeMoreCard : Claim7 := { stood := { row := storeMoreRow, standIns := [], harness := (true, "86a3c41471132a7868ef16d12c3bac5dfb3c7f88965c999f93f34427acdaf01b"), looks := false }, kinds := [], alts := [], laidByText := true, laidKinds := [.data, .data, .data], laidTests := true, laidLooks := .later }
def StoreMoreCardSaid : Prop := Claim7.holds Tryd.pinned (.plain (OpenSpec.ofChange storeMoreSpec)) storeMoreCard

/-- THE SECOND FORM's CARD OF 'taliklaw06.StoreRuns'. -/
def storeRunsUptoCard : Claim7 := { stood := { row := storeRunsUptoRow, standIns := [], harness := (true, "86a3c41471132a7868ef16d12c3bac5dfb3c7f88965c999f93f34427acdaf01b"), looks := false }, kinds := [], alts := [], laidByText := true, laidKinds := [.data, .data, .data], laidTests := true, laidLooks := .later }
def StoreRunsUptoCardSaid : Prop := Claim7.holds Tryd.pinned (.plain (OpenSpec.upto storeRunsSpec)) storeRunsUptoCard

/-- THE SECOND FORM's CARD OF 'taliklaw06.StoreKeeps'. -/
def storeKeepsUptoCard : Claim7 := { stood := { row := storeKeepsUptoRow, standIns := [], harness := (true, "86a3c41471132a7868ef16d12c3bac5dfb3c7f88965c999f93f34427acdaf01b"), looks := false }, kinds := [], alts := [], laidByText := true, laidKinds := [.data, .data, .data], laidTests := true, laidLooks := .later }
def StoreKeepsUptoCardSaid : Prop := Claim7.holds Tryd.pinned (.plain (OpenSpec.upto storeKeepsSpec)) storeKeepsUptoCard

/-- THE SECOND FORM's CARD OF 'taliklaw06.StoreFaults'. -/
def storeFaultsUptoCard : Claim7 := { stood := { row := storeFaultsUptoRow, standIns := [], harness := (true, "86a3c41471132a7868ef16d12c3bac5dfb3c7f88965c999f93f34427acdaf01b"), looks := false }, kinds := [], alts := [], laidByText := true, laidKinds := [.data, .data, .data], laidTests := true, laidLooks := .later }
def StoreFaultsUptoCardSaid : Prop := Claim7.holds Tryd.pinned (.plain (OpenSpec.upto storeFaultsSpec)) storeFaultsUptoCard

/-- THE SECOND FORM's CARD OF 'taliklaw06.StoreEnough'. -/
def storeEnoughUptoCard : Claim7 := { stood := { row := storeEnoughUptoRow, standIns := [], harness := (true, "86a3c41471132a7868ef16d12c3bac5dfb3c7f88965c999f93f34427acdaf01b"), looks := false }, kinds := [], alts := [], laidByText := true, laidKinds := [.data, .data, .data], laidTests := true, laidLooks := .later }
def StoreEnoughUptoCardSaid : Prop := Claim7.holds Tryd.pinned (.plain (OpenSpec.upto storeEnoughSpec)) storeEnoughUptoCard

/-- THE SECOND FORM's CARD OF 'taliklaw06.StoreBests'. -/
def storeBestsUptoCard : Claim7 := { stood := { row := storeBestsUptoRow, standIns := [], harness := (true, "86a3c41471132a7868ef16d12c3bac5dfb3c7f88965c999f93f34427acdaf01b"), looks := false }, kinds := [], alts := [], laidByText := true, laidKinds := [.data, .data, .data], laidTests := true, laidLooks := .later }
def StoreBestsUptoCardSaid : Prop := Claim7.holds Tryd.pinned (.plain (OpenSpec.upto storeBestsSpec)) storeBestsUptoCard

/-- THE SECOND FORM's CARD OF 'taliklaw06.StoreRivals'. -/
def storeRivalsUptoCard : Claim7 := { stood := { row := storeRivalsUptoRow, standIns := [], harness := (true, "86a3c41471132a7868ef16d12c3bac5dfb3c7f88965c999f93f34427acdaf01b"), looks := false }, kinds := [], alts := [], laidByText := true, laidKinds := [.data, .data, .data], laidTests := true, laidLooks := .later }
def StoreRivalsUptoCardSaid : Prop := Claim7.holds Tryd.pinned (.plain (OpenSpec.upto storeRivalsSpec)) storeRivalsUptoCard

/-- THE SECOND FORM's CARD OF 'taliklaw06.StoreFloors'. -/
def storeFloorsUptoCard : Claim7 := { stood := { row := storeFloorsUptoRow, standIns := [], harness := (true, "86a3c41471132a7868ef16d12c3bac5dfb3c7f88965c999f93f34427acdaf01b"), looks := false }, kinds := [], alts := [], laidByText := true, laidKinds := [.data, .data, .data], laidTests := true, laidLooks := .later }
def StoreFloorsUptoCardSaid : Prop := Claim7.holds Tryd.pinned (.plain (OpenSpec.upto storeFloorsSpec)) storeFloorsUptoCard

/-- THE SECOND FORM's CARD OF 'taliklaw06.StoreFloored'. -/
def storeFlooredUptoCard : Claim7 := { stood := { row := storeFlooredUptoRow, standIns := [], harness := (true, "86a3c41471132a7868ef16d12c3bac5dfb3c7f88965c999f93f34427acdaf01b"), looks := false }, kinds := [], alts := [], laidByText := true, laidKinds := [.data, .data, .data], laidTests := true, laidLooks := .later }
def StoreFlooredUptoCardSaid : Prop := Claim7.holds Tryd.pinned (.plain (OpenSpec.upto storeFlooredSpec)) storeFlooredUptoCard

/-- THE SECOND FORM's CARD OF 'taliklaw06.StoreMore'. -/
def storeMoreUptoCard : Claim7 := { stood := { row := storeMoreUptoRow, standIns := [], harness := (true, "86a3c41471132a7868ef16d12c3bac5dfb3c7f88965c999f93f34427acdaf01b"), looks := false }, kinds := [], alts := [], laidByText := true, laidKinds := [.data, .data, .data], laidTests := true, laidLooks := .later }
def StoreMoreUptoCardSaid : Prop := Claim7.holds Tryd.pinned (.plain (OpenSpec.upto storeMoreSpec)) storeMoreUptoCard
end Rows
end Go.Proofs.YtijjkiogmlannaaDoor
