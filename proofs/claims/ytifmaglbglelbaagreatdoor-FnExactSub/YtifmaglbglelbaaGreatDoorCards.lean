/-
  DERIVED. GIVEN WITH THE SEED: THE CARDS: each row of YtifmaglbglelbaaGreatDoorRows.lean that lists a variable, with what it lists TIED to the program's text (the seventh form; the later family's looks); each row that meets fmt, with fmt's text TOLD by the authors' own Lean function (tested against real Go, not proved from fmt's source: count such statements apart). THE CARD IS WHAT COUNTS. Prove the row's statement (the work); the ties are given (YtifmaglbglelbaaGreatDoorTie.lean); close each card by the builder's one call (the guide's Derived/Test/ToyasCard.lean, 'card_holds'). Laid BY PROGRAM, IN A SANDBOX (cutbox-door.mjs). By AI agents, Wed Nov 11 2026. No macro, syntax, notation, axiom, sorry.
-/
import Derived.Test.YtifmaglbglelbaaGreatDoorRows
import GoSem.ClaimSeven
namespace Go.Proofs.YtifmaglbglelbaaGreatDoor
namespace Rows

/-- THE TIED CARD OF 'laws.FnExactSub'. -/
def fnExactSubCard : Claim7 := { stood := { row := fnExactSubRow, standIns := [], harness := (true, "fe125cd7134bbbc1244da0a46bfd3834b50398ce5791ab625e2b8d167fcceba3"), looks := false }, kinds := [], alts := [], laidByText := true, laidKinds := [.data, .data, .data], laidTests := true, laidLooks := .later }
def FnExactSubCardSaid : Prop := Claim7.holds Tryz.pinned (.plain (OpenSpec.ofChange fnExactSubSpec)) fnExactSubCard

/-- THE SECOND FORM's CARD OF 'laws.FnExactSub'. -/
def fnExactSubUptoCard : Claim7 := { stood := { row := fnExactSubUptoRow, standIns := [], harness := (true, "fe125cd7134bbbc1244da0a46bfd3834b50398ce5791ab625e2b8d167fcceba3"), looks := false }, kinds := [], alts := [], laidByText := true, laidKinds := [.data, .data, .data], laidTests := true, laidLooks := .later }
def FnExactSubUptoCardSaid : Prop := Claim7.holds Tryz.pinned (.plain (OpenSpec.upto fnExactSubSpec)) fnExactSubUptoCard
end Rows
end Go.Proofs.YtifmaglbglelbaaGreatDoor
