/-
  DERIVED. GIVEN WITH THE SEED: THE CARDS: each row of YtlkmabnjmklkpaaDoorRows.lean that lists a variable, with what it lists TIED to the program's text (the seventh form; the later family's looks); each row that meets fmt, with fmt's text TOLD by the authors' own Lean function (tested against real Go, not proved from fmt's source: count such statements apart). THE CARD IS WHAT COUNTS. Prove the row's statement (the work); the ties are given (YtlkmabnjmklkpaaDoorTie.lean); close each card by the builder's one call (the guide's Derived/Test/ToyasCard.lean, 'card_holds'). Laid BY PROGRAM, IN A SANDBOX (cutbox-door.mjs). By AI agents, Wed Nov 11 2026. No macro, syntax, notation, axiom, sorry.
-/
import Derived.Test.YtlkmabnjmklkpaaDoorRows
import GoSem.ClaimSeven
namespace Go.Proofs.YtlkmabnjmklkpaaDoor
namespace Rows

/-- THE TIED CARD OF 'ropewalklaw14.AgendaNil'. -/
def agendaNilCard : Claim7 := { stood := { row := agendaNilRow, standIns := [], harness := (true, "b6430f268895d669dc8d7b3b14319399987f7403e2f2f602a82d3ea8613aba6f"), looks := false }, kinds := [], alts := [], laidByText := true, laidKinds := [.data, .data, .data], laidTests := true, laidLooks := .later }
def AgendaNilCardSaid : Prop := Claim7.holds Tryd.pinned (.plain (OpenSpec.ofChange agendaNilSpec)) agendaNilCard

/-- THE TIED CARD OF 'ropewalklaw14.AgendaOrder'. -/
def agendaOrderCard : Claim7 := { stood := { row := agendaOrderRow, standIns := [], harness := (true, "b6430f268895d669dc8d7b3b14319399987f7403e2f2f602a82d3ea8613aba6f"), looks := false }, kinds := [], alts := [], laidByText := true, laidKinds := [.data, .data, .data], laidTests := true, laidLooks := .later }
def AgendaOrderCardSaid : Prop := Claim7.holds Tryd.pinned (.plain (OpenSpec.ofChange agendaOrderSpec)) agendaOrderCard

/-- THE SECOND FORM's CARD OF 'ropewalklaw14.AgendaNil'. -/
def agendaNilUptoCard : Claim7 := { stood := { row := agendaNilUptoRow, standIns := [], harness := (true, "b6430f268895d669dc8d7b3b14319399987f7403e2f2f602a82d3ea8613aba6f"), looks := false }, kinds := [], alts := [], laidByText := true, laidKinds := [.data, .data, .data], laidTests := true, laidLooks := .later }
def AgendaNilUptoCardSaid : Prop := Claim7.holds Tryd.pinned (.plain (OpenSpec.upto agendaNilSpec)) agendaNilUptoCard

/-- THE SECOND FORM's CARD OF 'ropewalklaw14.AgendaOrder'. -/
def agendaOrderUptoCard : Claim7 := { stood := { row := agendaOrderUptoRow, standIns := [], harness := (true, "b6430f268895d669dc8d7b3b14319399987f7403e2f2f602a82d3ea8613aba6f"), looks := false }, kinds := [], alts := [], laidByText := true, laidKinds := [.data, .data, .data], laidTests := true, laidLooks := .later }
def AgendaOrderUptoCardSaid : Prop := Claim7.holds Tryd.pinned (.plain (OpenSpec.upto agendaOrderSpec)) agendaOrderUptoCard
end Rows
end Go.Proofs.YtlkmabnjmklkpaaDoor
