/-
  DERIVED. GIVEN WITH THE SEED: THE CARDS: each row of YtlkmabnjmklkpaaGreatDoorRows.lean that lists a variable, with what it lists TIED to the program's text (the seventh form; the later family's looks); each row that meets fmt, with fmt's text TOLD by the authors' own Lean function (tested against real Go, not proved from fmt's source: count such statements apart). THE CARD IS WHAT COUNTS. Prove the row's statement (the work); the ties are given (YtlkmabnjmklkpaaGreatDoorTie.lean); close each card by the builder's one call (the guide's Derived/Test/ToyasCard.lean, 'card_holds'). Laid BY PROGRAM, IN A SANDBOX (cutbox-door.mjs). By AI agents, Wed Nov 11 2026. No macro, syntax, notation, axiom, sorry.
-/
import Derived.Test.YtlkmabnjmklkpaaGreatDoorRows
import GoSem.ClaimSeven
namespace Go.Proofs.YtlkmabnjmklkpaaGreatDoor
namespace Rows

/-- THE TIED CARD OF 'ropewalklaw14.AgendaBetter'. -/
def agendaBetterCard : Claim7 := { stood := { row := agendaBetterRow, standIns := [], harness := (true, "ef81c66b5b941bcfc4196100f23ad6eb0dcdb6954e5844a8b9f16ccd3f9011ce"), looks := false }, kinds := [], alts := [], laidByText := true, laidKinds := [.data, .data, .data], laidTests := true, laidLooks := .later }
def AgendaBetterCardSaid : Prop := Claim7.holds Tryz.pinned (.plain (OpenSpec.ofChange agendaBetterSpec)) agendaBetterCard

/-- THE TIED CARD OF 'ropewalklaw14.AgendaLives'. -/
def agendaLivesCard : Claim7 := { stood := { row := agendaLivesRow, standIns := [], harness := (true, "ef81c66b5b941bcfc4196100f23ad6eb0dcdb6954e5844a8b9f16ccd3f9011ce"), looks := false }, kinds := [], alts := [], laidByText := true, laidKinds := [.data, .data, .data], laidTests := true, laidLooks := .later }
def AgendaLivesCardSaid : Prop := Claim7.holds Tryz.pinned (.plain (OpenSpec.ofChange agendaLivesSpec)) agendaLivesCard

/-- THE TIED CARD OF 'ropewalklaw14.AgendaNumbers'. -/
def agendaNumbersCard : Claim7 := { stood := { row := agendaNumbersRow, standIns := [], harness := (true, "ef81c66b5b941bcfc4196100f23ad6eb0dcdb6954e5844a8b9f16ccd3f9011ce"), looks := false }, kinds := [], alts := [], laidByText := true, laidKinds := [.data, .data, .data], laidTests := true, laidLooks := .later }
def AgendaNumbersCardSaid : Prop := Claim7.holds Tryz.pinned (.plain (OpenSpec.ofChange agendaNumbersSpec)) agendaNumbersCard

/-- THE SECOND FORM's CARD OF 'ropewalklaw14.AgendaBetter'. -/
def agendaBetterUptoCard : Claim7 := { stood := { row := agendaBetterUptoRow, standIns := [], harness := (true, "ef81c66b5b941bcfc4196100f23ad6eb0dcdb6954e5844a8b9f16ccd3f9011ce"), looks := false }, kinds := [], alts := [], laidByText := true, laidKinds := [.data, .data, .data], laidTests := true, laidLooks := .later }
def AgendaBetterUptoCardSaid : Prop := Claim7.holds Tryz.pinned (.plain (OpenSpec.upto agendaBetterSpec)) agendaBetterUptoCard

/-- THE SECOND FORM's CARD OF 'ropewalklaw14.AgendaLives'. -/
def agendaLivesUptoCard : Claim7 := { stood := { row := agendaLivesUptoRow, standIns := [], harness := (true, "ef81c66b5b941bcfc4196100f23ad6eb0dcdb6954e5844a8b9f16ccd3f9011ce"), looks := false }, kinds := [], alts := [], laidByText := true, laidKinds := [.data, .data, .data], laidTests := true, laidLooks := .later }
def AgendaLivesUptoCardSaid : Prop := Claim7.holds Tryz.pinned (.plain (OpenSpec.upto agendaLivesSpec)) agendaLivesUptoCard

/-- THE SECOND FORM's CARD OF 'ropewalklaw14.AgendaNumbers'. -/
def agendaNumbersUptoCard : Claim7 := { stood := { row := agendaNumbersUptoRow, standIns := [], harness := (true, "ef81c66b5b941bcfc4196100f23ad6eb0dcdb6954e5844a8b9f16ccd3f9011ce"), looks := false }, kinds := [], alts := [], laidByText := true, laidKinds := [.data, .data, .data], laidTests := true, laidLooks := .later }
def AgendaNumbersUptoCardSaid : Prop := Claim7.holds Tryz.pinned (.plain (OpenSpec.upto agendaNumbersSpec)) agendaNumbersUptoCard
end Rows
end Go.Proofs.YtlkmabnjmklkpaaGreatDoor
